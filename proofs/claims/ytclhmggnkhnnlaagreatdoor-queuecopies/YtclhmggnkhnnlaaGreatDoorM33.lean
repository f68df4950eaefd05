/- Pieces of the proof: QSame, QvS, QxM. -/
import Derived.Test.YtclhmggnkhnnlaaGreatDoorM4
import Derived.RegionTactic
import Derived.Test.YtclhmggnkhnnlaaGreatDoorM12
import Derived.BigQuiet
import Derived.Deep.LoopGhost
import Derived.Test.YtclhmggnkhnnlaaGreatDoorM21
import Derived.Test.YtclhmggnkhnnlaaGreatDoorM30
import Derived.Test.YtclhmggnkhnnlaaGreatDoorM32
/- pointsmanlaw01.SameBytes of the same bytes, over QoB. -/
namespace Go.Proofs.YtclhmggnkhnnlaaGreatDoor
open Go.RowKit

theorem same_rd (l : List Nat) (hl : l.length ≤ 140737488355328) (a b : Option Addr) (c d : Nat) (w : World) (ha : RdA w a l) (hb : RdA w b l) :
    Calls Tryz.prog 29 #[.slice a l.length c, .slice b l.length d] w fun e w' => e = .returned (.bool true) ∧ Below w.heap.size w w' := by
  have HA := hide ha; have HB := hide hb
  clear ha hb
  go_enter Tryz.func29, Tryz.ntmps29
  go_wp2
  go_loopw [5] (fun i wr => ∃ k : Nat, k ≤ l.length ∧ i = .int .i64 k ∧ Below w.heap.size w wr) (fun i _ => l.length - (intOf i).toNat)
  case atStart => exact ⟨0, Nat.zero_le _, rfl, Below.refl _ _⟩
  case round =>
    obtain ⟨k, hk, rfl, hnx⟩ := hrel
    have HN := hide hnx
    by_cases hlt : k < l.length
    · obtain ⟨p, o1, rfl, _, h1⟩ := (HA.out.below hnx).some (by omega)
      obtain ⟨q, o2, rfl, _, h2⟩ := (HB.out.below hnx).some (by omega)
      have hca := h1 k hlt
      have hcb := h2 k hlt
      have hlI : (k : Int) < (l.length : Int) := by omega
      clear h1 h2 hnx HA HB
      generalize l[k] = x at *
      go_wp2
      go_region
      all_goals
        go_wp2
        go_roundw
        case rel => exact ⟨k + 1, by omega, by go_num, HN.out.drew⟩
        case measure => simp [intOf]; omega
    · clear hnx HA HB
      go_wp2
      go_ret
      exact ⟨rfl, HN.out⟩
end Go.Proofs.YtclhmggnkhnnlaaGreatDoor
/- pointsmanlaw17.same: what the program sent is what the document sent. -/
namespace Go.Proofs.YtclhmggnkhnnlaaGreatDoor
open Go.RowKit

def Cy.key (c : Cy) : Int × List Nat := (c.port, c.xs)
/- Copies that can be read. -/
structure RdY (W : World) (a : Option Addr) (L : List Cy) : Prop where
  rd : L = [] ∨ ∃ p off, a = some ⟨p, off, none⟩ ∧ p < W.heap.size ∧ ∀ i (h : i < L.length), W.cell? ⟨p, off + i * 2, none⟩ = some (.int .i64 L[i].port) ∧ W.cell? ⟨p, off + i * 2 + 1, none⟩ = some (.slice L[i].a L[i].xs.length L[i].cap)
  ok : ∀ c ∈ L, RdA W c.a c.xs
theorem RdY.below {W W' : World} {a : Option Addr} {L : List Cy} (h : RdY W a L) (hb : Below W.heap.size W W') : RdY W' a L := by
  refine ⟨?_, fun c hc => (h.ok c hc).below hb⟩
  rcases h.rd with h | ⟨p, off, rfl, hp, hc⟩
  · exact .inl h
  · exact .inr ⟨p, off, rfl, Nat.lt_of_lt_of_le hp hb.size, fun i hi => ⟨(hb.cell (p := ⟨p, _, none⟩) hp).trans (hc i hi).1, (hb.cell (p := ⟨p, _, none⟩) hp).trans (hc i hi).2⟩⟩
theorem RdY.get {W : World} {a : Option Addr} {L : List Cy} (h : RdY W a L) (h0 : 0 < L.length) : ∃ p off, a = some ⟨p, off, none⟩ ∧ p < W.heap.size ∧ ∀ i (h : i < L.length), W.cell? ⟨p, off + i * 2, none⟩ = some (.int .i64 L[i].port) ∧ W.cell? ⟨p, off + i * 2 + 1, none⟩ = some (.slice L[i].a L[i].xs.length L[i].cap) := by
  rcases h.rd with rfl | h
  · simp at h0
  · exact h
theorem rdY_own {W : World} {B n cap : Nat} {e : TypeId} {a : Option Addr} {L : List Cy} (h : W.ownsRow B e 2 (.slice a n cap) L.length (flat Cy.cells L)) (ok : ∀ c ∈ L, RdA W c.a c.xs) : RdY W a L := by
  refine ⟨?_, ok⟩
  rcases h.2 with ⟨_, hn⟩ | ⟨g, c, cur, e, hg, hcur, _⟩
  · exact .inl (List.length_eq_zero_iff.1 hn)
  · injection e with e1 e2 e3
    subst e1
    refine .inr ⟨g, 0, rfl, (Array.getElem?_eq_some_iff.1 hcur).1, fun i hi => ?_⟩
    have g0 := flat_get cy_len L i 0 hi (by decide)
    have g1 := flat_get cy_len L i 1 hi (by decide)
    have k0 := World.ownsRow.cells h rfl (i * 2 + 0) _ g0
    have k1 := World.ownsRow.cells h rfl (i * 2 + 1) _ g1
    rw [Addr.add_mid] at k0 k1
    simp only [Nat.zero_add, Nat.add_zero] at k0 k1 ⊢
    exact ⟨k0, k1⟩
theorem same_rdN (l : List Nat) (hl : l.length ≤ 140737488355328) (a b : Option Addr) (c d : Nat) (w : World) (ha : RdA w a l) (hb : RdA w b l) :
    Calls Tryz.prog 29 #[.slice a l.length c, .slice b l.length d] w fun e w' => e = .returned (.bool true) ∧ ∃ n, w' = w.drewN n := by
  have HA := hide ha; have HB := hide hb
  clear ha hb
  go_enter Tryz.func29, Tryz.ntmps29
  go_wp2
  go_loopw [5] (fun i wr => ∃ k : Nat, k ≤ l.length ∧ i = .int .i64 k ∧ ∃ n, wr = w.drewN n) (fun i _ => l.length - (intOf i).toNat)
  case atStart => exact ⟨0, Nat.zero_le _, rfl, 0, rfl⟩
  case round =>
    obtain ⟨k, hk, rfl, m, rfl⟩ := hrel
    by_cases hlt : k < l.length
    · obtain ⟨p, o1, rfl, _, h1⟩ := HA.out.some (by omega)
      obtain ⟨q, o2, rfl, _, h2⟩ := HB.out.some (by omega)
      have hca := h1 k hlt
      have hcb := h2 k hlt
      have hlI : (k : Int) < (l.length : Int) := by omega
      clear h1 h2 HA HB
      generalize l[k] = x at *
      go_wp2
      go_region
      all_goals
        go_wp2
        go_roundw
        case rel => exact ⟨k + 1, by omega, by go_num, m + 1, rfl⟩
        case measure => simp [intOf]; omega
    · clear HA HB
      go_wp2
      go_ret
      exact ⟨rfl, m, rfl⟩
set_option maxRecDepth 100000 in
set_option maxHeartbeats 1000000 in
theorem same_any (L M : List Cy) (hk : L.map Cy.key = M.map Cy.key) (a b : Option Addr) (ca cb : Nat) (w : World) (hl : RdY w a L) (hm : RdY w b M) (hx : ∀ c ∈ L, c.xs.length ≤ 140737488351232) (h64 : L.length ≤ 100000000) :
    Calls Tryz.prog 10 #[.slice a L.length ca, .slice b M.length cb] w fun e w' => e = .returned (.bool true) ∧ Below w.heap.size w w' := by
  have hlen : M.length = L.length := by have := congrArg List.length hk; simpa using this.symm
  have HL := hide hl; have HM := hide hm
  have HK : Hid (∀ i (h1 : i < L.length) (h2 : i < M.length), L[i].port = M[i].port ∧ L[i].xs = M[i].xs) := fun i h1 h2 => by
    have h3 : (L.map Cy.key)[i]? = (M.map Cy.key)[i]? := by rw [hk]
    rw [List.getElem?_map, List.getElem?_map, List.getElem?_eq_getElem h1, List.getElem?_eq_getElem h2] at h3
    simp [Cy.key] at h3
    exact h3
  have HX := hide hx
  rw [hlen]
  have HLEN := hide hlen
  clear hl hm hk hx hlen
  go_enter Tryz.func10, Tryz.ntmps10
  go_wp2
  go_loopg [5] L.length (fun gk i wr => ∃ k : Nat, k + gk = L.length ∧ i = .int .i64 k ∧ Below w.heap.size w wr)
  case atStart => exact ⟨0, by omega, rfl, Below.refl _ _⟩
  case round =>
    obtain ⟨k, hk, rfl, hnx⟩ := hrel
    have HN := hide hnx
    have HKG := hide hk
    by_cases hlt : k < L.length
    · have hlt2 : k < M.length := by rw [HLEN.out]; exact hlt
      obtain ⟨p, o1, rfl, _, h1⟩ := (HL.out.below hnx).get (by omega)
      obtain ⟨q, o2, rfl, _, h2⟩ := (HM.out.below hnx).get (by omega)
      obtain ⟨ca0, ca1⟩ := h1 k hlt
      obtain ⟨cb0, cb1⟩ := h2 k hlt2
      obtain ⟨e1, e2⟩ := HK.out k hlt hlt2
      have HS : Hid (∀ n, Calls Tryz.prog 29 #[.slice L[k].a L[k].xs.length L[k].cap, .slice M[k].a L[k].xs.length M[k].cap] (wr.drewN n) fun e w' => e = .returned (.bool true) ∧ ∃ m, w' = (wr.drewN n).drewN m) := fun n =>
        same_rdN L[k].xs (by have := HX.out _ (List.getElem_mem hlt); omega) _ _ _ _ (wr.drewN n) ((HL.out.below (below_drewN hnx n)).ok _ (List.getElem_mem hlt)) (by rw [e2]; exact (HM.out.below (below_drewN hnx n)).ok _ (List.getElem_mem hlt2))
      rw [← e1] at cb0
      rw [← e2] at cb1
      have hlI : (k : Int) < (L.length : Int) := by omega
      clear h1 h2 hnx HL HM HK HX e1 e2 hk
      generalize L[k] = x at *
      generalize M[k] = y at *
      obtain ⟨xp, xa, xc, xs⟩ := x
      obtain ⟨yp, ya, yc, ys⟩ := y
      simp only at *
      generalize L.length = n at *
      generalize xs.length = m at *
      go_wp2
      go_quiet ((go_at_call 29; exact Calls.quiet_of (HS.out _)))
      rename_i nn
      go_wp2
      go_roundg (gk - 1)
      case measure => have := HKG.out; omega
      case rel => exact ⟨k + 1, by have := HKG.out; omega, by go_num, below_drewN HN.out _⟩
    · obtain rfl : k = L.length := by omega
      clear hnx HL HM
      go_wp2
      go_ret
      exact ⟨rfl, HN.out⟩
end Go.Proofs.YtclhmggnkhnnlaaGreatDoor
/- What both Copies answer, in one form; twins ask the same. -/
namespace Go.Proofs.YtclhmggnkhnnlaaGreatDoor
open Go.RowKit

def ports (gs : List Gp) (p : Ps) : List Int := if p.es.any (asks gs.length) then [] else wl gs p
theorem pcopies (p : Ps) (ga : Option Addr) (gc : Nat) (gs : List Gp) (w : World) (ha : Arg w p ga gs) (hl : (wl gs p).length ≤ 900000) : Calls Tryz.prog 8 #[.slice ga gs.length gc, .agg p.cells.toArray] w fun e w' => ∃ a c ys, e = .returned (.tuple #[.slice a ys.length c, .int .i64 (cde (p.es.any (asks gs.length)))]) ∧ w'.ownsRow w.heap.size 80 2 (.slice a ys.length c) ys.length (flat Cy.cells ys) ∧ ys.map Cy.port = ports gs p ∧ (∀ y ∈ ys, y.xs = p.xs ∧ Own8 w' w.heap.size (.slice y.a y.xs.length y.cap) y.xs) ∧ ys.Pairwise (fun y z => ∀ b b', (Value.slice y.a y.xs.length y.cap).ownBlock = some b → (Value.slice z.a z.xs.length z.cap).ownBlock = some b' → b < b') ∧ Below w.heap.size w w' := by
  unfold ports
  by_cases hk : p.es.any (asks gs.length) = true
  · rw [hk]
    refine (copies_no p ga gc gs w ha hk).mono ?_
    rintro e w' ⟨rfl, hb⟩
    exact ⟨none, 0, [], rfl, World.ownsRow_nil _ _ _ _, by simp, fun y hy => by simp at hy, List.Pairwise.nil, hb⟩
  · have hk' : p.es.any (asks gs.length) = false := by simpa using hk
    rw [hk']
    refine (copies_yes p ga gc gs w ha hk' (by omega)).mono ?_
    rintro e w' ⟨v, ys, rfl, h1, h2, h3, h4, hb⟩
    obtain ⟨a, c, rfl⟩ := own_shapeE h1
    exact ⟨a, c, ys, rfl, h1, by simpa using h2, h3, h4, hb⟩
theorem rcopies (p : Ps) (ga : Option Addr) (gc : Nat) (gs : List Gp) (w : World) (ha : Arg w p ga gs) (hl : (wl gs p).length ≤ 900000) : Calls Tryz.prog 9 #[.slice ga gs.length gc, .agg p.cells.toArray] w fun e w' => ∃ a c ys, e = .returned (.tuple #[.slice a ys.length c, .int .i64 (cde (p.es.any (asks gs.length)))]) ∧ RdY w' a ys ∧ ys.map Cy.port = ports gs p ∧ (∀ y ∈ ys, y.xs = p.xs) ∧ Below w.heap.size w w' := by
  unfold ports
  refine (rcopies_any p ga gc gs w ha hl).mono ?_
  rintro e w' ⟨v, rfl, h1, h2, hb⟩
  by_cases hk : p.es.any (asks gs.length) = true
  · rw [hk]
    obtain rfl := h1 hk
    exact ⟨none, 0, [], rfl, ⟨.inl rfl, fun c hc => by simp at hc⟩, by simp, fun y hy => by simp at hy, hb⟩
  · have hk' : p.es.any (asks gs.length) = false := by simpa using hk
    rw [hk']
    obtain ⟨hbl, ys, k1, k2, k3⟩ := h2 hk'
    obtain ⟨a, c, rfl⟩ := own_shapeE k1
    exact ⟨a, c, ys, rfl, rdY_own k1 (fun y hy => (Own8.rd (k3 y hy).2).2), by simpa using k2, fun y hy => (k3 y hy).1, hb⟩
/- How many ports groups have. -/
def gsum (l : List Gp) : Nat := (l.map (fun g => g.ps.length)).sum
theorem gsum_mem : ∀ (l : List Gp) (g : Gp), g ∈ l → g.ps.length ≤ gsum l
  | [], g, h => by simp at h
  | x :: l, g, h => by
    have e : gsum (x :: l) = x.ps.length + gsum l := by simp [gsum]
    rw [e]
    rcases List.mem_cons.1 h with rfl | h
    · omega
    · have := gsum_mem l g h; omega
theorem gsum_take (l : List Gp) (k : Nat) (h : k < l.length) : gsum (l.take (k + 1)) = gsum (l.take k) + l[k].ps.length := by
  unfold gsum
  rw [List.take_succ_eq_append_getElem h, List.map_append, List.sum_append]
  simp
theorem gsum_bd (B : Nat) : ∀ (l : List Gp), (∀ g ∈ l, g.ps.length ≤ B) → gsum l ≤ l.length * B
  | [], _ => by simp [gsum]
  | x :: l, h => by
    have e : gsum (x :: l) = x.ps.length + gsum l := by simp [gsum]
    rw [e, List.length_cons, Nat.add_mul, Nat.one_mul]
    have h1 := h x (List.mem_cons_self ..)
    have h2 := gsum_bd B l (fun g hg => h g (List.mem_cons_of_mem _ hg))
    omega
theorem pf_len (gs : List Gp) (e : Ef) : (pf gs e).length ≤ gsum gs := by
  unfold pf
  split
  · rw [List.getD_eq_getElem?_getD]
    by_cases h : e.group.toNat < gs.length
    · rw [List.getElem?_eq_getElem h]; exact gsum_mem gs _ (List.getElem_mem h)
    · rw [List.getElem?_eq_none (by omega)]; simp
  · simp
theorem flat_pf (gs : List Gp) : ∀ l : List Ef, (l.flatMap (pf gs)).length ≤ gsum gs * l.length
  | [] => by simp
  | e :: l => by
    rw [List.flatMap_cons, List.length_append, List.length_cons, Nat.mul_add, Nat.mul_one]
    have h1 := pf_len gs e
    have h2 := flat_pf gs l
    omega
theorem wl_len (gs : List Gp) (p : Ps) : (wl gs p).length ≤ gsum gs * p.es.length + 1 := by
  unfold wl
  rw [List.length_append]
  have h1 := flat_pf gs p.es
  split <;> simp only [List.length_singleton, List.length_nil] <;> omega
/- Twins ask the same. -/
def ekey (e : Ef) : Int × Int := (e.kind, e.group)
theorem isCl_key {e e' : Ef} (h : ekey e = ekey e') : isCl e = isCl e' ∧ e.group = e'.group := by
  unfold ekey at h
  injection h with h1 h2
  exact ⟨by unfold isCl; rw [h1], h2⟩
theorem pf_key {gs gs' : List Gp} {e e' : Ef} (hg : gs.map Gp.ps = gs'.map Gp.ps) (h : ekey e = ekey e') : pf gs e = pf gs' e' := by
  obtain ⟨h1, h2⟩ := isCl_key h
  unfold pf
  rw [h1, h2]
  have e1 : ∀ l : List Gp, (l.getD e'.group.toNat ⟨none, 0, []⟩).ps = ((l.map Gp.ps)[e'.group.toNat]?).getD [] := fun l => by
    rw [List.getD_eq_getElem?_getD, List.getElem?_map]
    cases l[e'.group.toNat]? <;> rfl
  rw [e1, e1, hg]
theorem map_rel {α β γ : Type} (f : α → γ) (g : β → γ) : ∀ (l : List α) (m : List β), l.length = m.length → (∀ i (h : i < l.length) (h' : i < m.length), f l[i] = g m[i]) → l.map f = m.map g := fun l m h1 h2 => by
  apply List.ext_getElem
  · simpa using h1
  · intro i hi hj
    simp only [List.getElem_map]
    exact h2 i (by simpa using hi) (by simpa using hj)
theorem ask_key {gs gs' : List Gp} (hg : gs.map Gp.ps = gs'.map Gp.ps) : ∀ (l l' : List Ef), l.map ekey = l'.map ekey → l.any (asks gs.length) = l'.any (asks gs'.length) ∧ l.flatMap (pf gs) = l'.flatMap (pf gs')
  | [], [], _ => ⟨rfl, rfl⟩
  | [], _ :: _, h => by simp at h
  | _ :: _, [], h => by simp at h
  | e :: l, e' :: l', h => by
    rw [List.map_cons, List.map_cons] at h
    injection h with h1 h2
    obtain ⟨k1, k2⟩ := ask_key hg l l' h2
    obtain ⟨k3, k4⟩ := isCl_key h1
    have hlen : gs.length = gs'.length := by simpa using congrArg List.length hg
    have k5 : asks gs.length e = asks gs'.length e' := by unfold asks; rw [k3, k4, hlen]
    rw [List.any_cons, List.any_cons, List.flatMap_cons, List.flatMap_cons, k1, k2, k5, pf_key hg h1]
    exact ⟨rfl, rfl⟩
theorem ask_twin {gs gs' : List Gp} {p p' : Ps} (hg : gs.map Gp.ps = gs'.map Gp.ps) (he : p.es.map ekey = p'.es.map ekey) (h1 : p.fin = p'.fin) (h2 : p.again = p'.again) (h3 : p.round = p'.round) (h4 : p.port = p'.port) : p.es.any (asks gs.length) = p'.es.any (asks gs'.length) ∧ wl gs p = wl gs' p' ∧ ports gs p = ports gs' p' := by
  obtain ⟨k1, k2⟩ := ask_key hg p.es p'.es he
  have k3 : wl gs p = wl gs' p' := by
    unfold wl
    have : outB p = outB p' := by unfold outB; rw [h1, h2, h3]
    rw [k2, this, h4]
  exact ⟨k1, k3, by unfold ports; rw [k1, k3]⟩
theorem TwPs.key {W : World} {B : Nat} {y z : Ps} {D : Ef → List Nb} {g1 g2 : Nat} (h : TwPs W B y D z g1 g2) : z.es.map ekey = y.es.map ekey :=
  map_rel _ _ _ _ h.l (fun i h1 h2 => by
    obtain ⟨g, c, e, _⟩ := (h.tw i h1 h2).e
    rw [e]; rfl)
theorem TgS.key {w W : World} {v : Value} {l zs : List Gp} (h : TgS w W v l zs) (hl : zs.length = l.length) : zs.map Gp.ps = l.map Gp.ps :=
  map_rel _ _ _ _ hl (fun i h1 h2 => (h.tw i h1 h2).e)
end Go.Proofs.YtclhmggnkhnnlaaGreatDoor
