/- Pieces of the proof: QxL. -/
import Derived.Test.YtclhmggnkhnnlaaGreatDoorM33
import Derived.Test.YtclhmggnkhnnlaaGreatDoorM34
import Derived.Test.YtclhmggnkhnnlaaGreatDoorM46
import Derived.Test.YtclhmggnkhnnlaaGreatDoorM47
/- pointsmanlaw17.QueueCopies, walked. -/
namespace Go.Proofs.YtclhmggnkhnnlaaGreatDoor
open Go.RowKit

structure QcA (w : World) (a : Option Addr) (gs : List Gp) (p : Ps) (D : Ef → List Nb) : Prop where
  rg : RdG Gp.cells 1 w a gs
  lg : gs.length ≤ 140737488355328
  rz : ∀ g ∈ gs, RdZ w g.a g.ps ∧ g.ps.length ≤ 140737488355328
  rx : RdA w p.pa p.xs
  nx : p.pa = none → p.pc = 0
  lx : p.xs.length ≤ 140737488351232
  re : RdG Ef.cells 10 w p.ea p.es
  le : p.es.length ≤ 140737488355328
  eb : ∀ e ∈ p.es, EfB e ∧ e.dn = (D e).length ∧ RdN w e.da (D e)
def toldC (c : Cy) : Nat × Value × Nat := (2, .slice c.a c.xs.length c.cap, c.xs.length)
/- What is small. -/
structure QcS (gs : List Gp) (p : Ps) : Prop where
  z : psz p ≤ 20000
  s : gsum gs ≤ 1000
  g : gs.length ≤ 1000
  t : gsum gs * p.es.length * (10 + p.xs.length) ≤ 2000000
theorem QcS.wl {gs : List Gp} {p : Ps} (h : QcS gs p) : (wl gs p).length ≤ 200001 := by
  have h1 := wl_len gs p
  have h2 : gsum gs * p.es.length * 10 ≤ gsum gs * p.es.length * (10 + p.xs.length) := Nat.mul_le_mul_left _ (by omega)
  have h3 := h.t
  omega
theorem QcA.arg {w W : World} {a : Option Addr} {gs : List Gp} {p : Ps} {D : Ef → List Nb} (h : QcA w a gs p D) (s : QcS gs p) (hb : Below w.heap.size w W) : Arg W p a gs := by
  obtain ⟨k1, k2, k3⟩ := psz_small s.z
  refine ⟨h.rx.below hb, h.nx, by omega, h.re.below hb, h.rg.below hb, fun g hg => ⟨(h.rz g hg).1.below hb, ?_⟩, by omega, by have := s.g; omega⟩
  have := gsum_mem gs g hg
  have := s.s
  omega
theorem rdG_own {W : World} {α : Type} {B e c gr k cap : Nat} {f : α → List Value} (hc : ∀ x, (f x).length = c) {l : List α} {rest : List Value} (h : W.ownsRow B e c (.slice (some ⟨gr, 0, none⟩) k cap) k (flat f l ++ rest)) : RdG f c W (some ⟨gr, 0, none⟩) l := by
  refine .inr ⟨gr, 0, rfl, (World.ownsRow.lt h gr rfl).2, fun i hi j u hu => ?_⟩
  have hj : j < c := by have := (List.getElem?_eq_some_iff.1 hu).1; rw [hc] at this; exact this
  have h0 := (flat_get hc l i j hi hj).trans hu
  have hlt := (List.getElem?_eq_some_iff.1 h0).1
  have h1 := World.ownsRow.cells h rfl (i * c + j) _ ((List.getElem?_append_left hlt).trans h0)
  rw [Addr.add_mid] at h1
  rw [Nat.zero_add] at h1 ⊢
  exact h1
/- The twins, asked of as the arguments are. -/
theorem twArg {W : World} {B B1 g1 g2 gb gc : Nat} {gs zs : List Gp} {p z : Ps} {D : Ef → List Nb} (hp : TwPs W B p D z g1 g2) (hzl : zs.length = gs.length) (hg : W.ownsRow B1 30 1 (.slice (some ⟨gb, 0, none⟩) gs.length gc) gs.length (flat Gp.cells zs)) (htw : ∀ i (h : i < zs.length) (h' : i < gs.length), TwGp W B1 gs[i] zs[i]) (s : QcS gs p) : Arg W z (some ⟨gb, 0, none⟩) zs := by
  obtain ⟨k1, k2, k3⟩ := psz_small s.z
  have hxs : z.xs = p.xs := by rw [hp.e]
  have hpa : z.pa = some ⟨g1, 0, none⟩ := by rw [hp.e]
  have hea : z.ea = some ⟨g2, 0, none⟩ := by rw [hp.e]
  have hb := Own8.cut hp.b p.xs.length (by simp)
  rw [List.take_left] at hb
  refine ⟨(by rw [hxs, hpa]; exact (Own8.rd hb).2), fun e => (by rw [hpa] at e; cases e), (by rw [hxs]; omega), (by rw [hea]; have := hp.o; rw [flat_append] at this; exact rdG_own ef_len this), rdG_own gp_len (rest := []) (by rw [List.append_nil]; exact hg), fun g hg2 => ?_, (by rw [hp.l]; omega), (by rw [hzl]; have := s.g; omega)⟩
  obtain ⟨i, hi, rfl⟩ := List.getElem_of_mem hg2
  have ht := htw i hi (by omega)
  obtain ⟨q, q1, q2, q3⟩ := ht.ms
  have hq := (rdZ_own q3).2
  rw [q1, ht.e]
  refine ⟨hq, ?_⟩
  have := gsum_mem gs _ (List.getElem_mem (show i < gs.length by omega))
  have := s.s
  omega
theorem keys_eq {X : List Nat} {ys zs : List Cy} (h : ys.map Cy.port = zs.map Cy.port) (h1 : ∀ y ∈ ys, y.xs = X) (h2 : ∀ y ∈ zs, y.xs = X) : ys.map Cy.key = zs.map Cy.key := by
  have e : ∀ l : List Cy, (∀ y ∈ l, y.xs = X) → l.map Cy.key = (l.map Cy.port).map (fun n => (n, X)) := fun l hl => by
    rw [List.map_map]
    exact List.map_congr_left (fun y hy => by simp [Cy.key, hl y hy])
  rw [e ys h1, e zs h2, h]
/- The program's Copies of the twins. -/
theorem twCopies {W : World} {B B1 g1 g2 gb gc : Nat} {gs zs : List Gp} {p z : Ps} {D : Ef → List Nb} (hp : TwPs W B p D z g1 g2) (hzl : zs.length = gs.length) (hg : W.ownsRow B1 30 1 (.slice (some ⟨gb, 0, none⟩) gs.length gc) gs.length (flat Gp.cells zs)) (htw : ∀ i (h : i < zs.length) (h' : i < gs.length), TwGp W B1 gs[i] zs[i]) (s : QcS gs p) :
    Calls Tryz.prog 8 #[.slice (some ⟨gb, 0, none⟩) gs.length gc, .agg z.cells.toArray] W fun e w' => ∃ a c ys, e = .returned (.tuple #[.slice a ys.length c, .int .i64 (cde (p.es.any (asks gs.length)))]) ∧ w'.ownsRow W.heap.size 80 2 (.slice a ys.length c) ys.length (flat Cy.cells ys) ∧ ys.map Cy.port = ports gs p ∧ (∀ y ∈ ys, y.xs = p.xs ∧ Own8 w' W.heap.size (.slice y.a y.xs.length y.cap) y.xs) ∧ ys.Pairwise (fun y z => ∀ b b', (Value.slice y.a y.xs.length y.cap).ownBlock = some b → (Value.slice z.a z.xs.length z.cap).ownBlock = some b' → b < b') ∧ Below W.heap.size W w' := by
  have hA := twArg hp hzl hg htw s
  have hk : zs.map Gp.ps = gs.map Gp.ps := map_rel _ _ _ _ hzl (fun i h1 h2 => (htw i h1 h2).e)
  have e1 : z.fin = p.fin := by rw [hp.e]
  have e2 : z.again = p.again := by rw [hp.e]
  have e3 : z.round = p.round := by rw [hp.e]
  have e4 : z.port = p.port := by rw [hp.e]
  have e5 : z.xs = p.xs := by rw [hp.e]
  obtain ⟨k1, k2, k3⟩ := ask_twin hk hp.key e1 e2 e3 e4
  have := pcopies z (some ⟨gb, 0, none⟩) gc zs W hA (by rw [k2]; have := s.wl; omega)
  rw [k1, k3, e5, hzl] at this
  exact this
/- The Book, and what it is to be told. -/
theorem BoG.beginQ {w W : World} {B B2 g1 g2 : Nat} {p z : Ps} {D : Ef → List Nb} {ys : List Cy} (bl : Below w.heap.size w W) (hp : TwPs W B p D z g1 g2) (hB : w.heap.size ≤ B) (hx : p.xs.length ≤ 20000) (hl : p.es.length ≤ 20000) (hd : ∀ e ∈ p.es, e.dn = (D e).length ∧ (D e).length ≤ 20000) (hg : g1 < B2) (hB2 : w.heap.size ≤ B2) (hy : ∀ y ∈ ys, y.xs = p.xs ∧ Own8 W B2 (.slice y.a y.xs.length y.cap) y.xs) (hpw : ys.Pairwise (fun y z => ∀ b b', (Value.slice y.a y.xs.length y.cap).ownBlock = some b → (Value.slice z.a z.xs.length z.cap).ownBlock = some b' → b < b')) (t : TypeId) :
    BoG KX lvX w W (W.alloc (.cells bk0 t)) 0 (fun _ => .slice none 0 0) (fun _ => []) ((2, .slice z.pa z.xs.length z.pc, z.xs.length) :: (toldFs (.slice z.ea z.es.length z.ec) z.es ++ ys.map toldC)) := by
  have hxs : z.xs = p.xs := by rw [hp.e]
  have hpa : z.pa = some ⟨g1, 0, none⟩ := by rw [hp.e]
  have hea : z.ea = some ⟨g2, 0, none⟩ := by rw [hp.e]
  have hzf : ∀ x ∈ z.es, ∃ g, x.blk g ∧ x.dn ≤ 20000 ∧ ∃ xs, W.ownsRow B 92 3 (.slice x.da x.dn x.dc) x.dn xs := fun x hx => by
    obtain ⟨i, hi, rfl⟩ := List.getElem_of_mem hx
    have hi' : i < p.es.length := by rw [← hp.l]; exact hi
    obtain ⟨g, c, e, _, k, _⟩ := (hp.tw i hi hi').e
    obtain ⟨k1, k2⟩ := hd _ (List.getElem_mem hi')
    refine ⟨g, by rw [e]; rfl, by rw [e]; show p.es[i].dn ≤ _; omega, flat Nb.cells (D p.es[i]), ?_⟩
    rw [e]
    show W.ownsRow B 92 3 (.slice (some ⟨g, 0, none⟩) p.es[i].dn c) p.es[i].dn (flat Nb.cells (D p.es[i]))
    rw [k1]; exact k
  refine BoG.start bl (fun u hu => ?_) ?_ t
  · rcases List.mem_cons.1 hu with rfl | hu
    · have hb := Own8.cut hp.b p.xs.length (by simp)
      rw [List.take_left] at hb
      refine ⟨oobX 2 rfl, rfl, ⟨u8s p.xs, ?_⟩, ?_⟩
      · show W.ownsRow _ 5 1 (.slice z.pa z.xs.length z.pc) z.xs.length _
        rw [hpa, hxs]
        exact owR_lower hb hB
      · show z.xs.length ≤ 140737488351232
        rw [hxs]; omega
    · rcases List.mem_append.1 hu with hu | hu
      · rcases List.mem_append.1 hu with hu | hu
        · obtain ⟨x, hx, rfl⟩ := List.mem_map.1 hu
          obtain ⟨g, _, k2, xs, k3⟩ := hzf x hx
          exact ⟨oobX 6 rfl, rfl, ⟨xs, owR_lower k3 hB⟩, by show x.dn ≤ 100000000; omega⟩
        · obtain rfl := List.mem_singleton.1 hu
          have ho := hp.o
          rw [flat_append] at ho
          have hc := own_cut (m := 1) ho (by rw [flat_length ef_len, hp.l])
          refine ⟨oobX 25 rfl, rfl, ⟨flat Ef.cells z.es, ?_⟩, ?_⟩
          · show W.ownsRow _ 95 10 (.slice z.ea z.es.length z.ec) z.es.length _
            rw [hea, hp.l]
            exact owR_lower hc hB
          · show z.es.length ≤ 100000000
            rw [hp.l]; omega
      · obtain ⟨y, hy1, rfl⟩ := List.mem_map.1 hu
        obtain ⟨k1, k2⟩ := hy y hy1
        exact ⟨oobX 2 rfl, rfl, ⟨_, owR_lower k2 hB2⟩, by show y.xs.length ≤ 140737488351232; rw [k1]; omega⟩
  · refine List.pairwise_cons.2 ⟨fun u hu e b hb hb' => ?_, List.pairwise_append.2 ⟨List.pairwise_append.2 ⟨?_, List.pairwise_singleton _ _, fun u hu v hv e => ?_⟩, ?_, fun u hu v hv e => ?_⟩⟩
    · rcases List.mem_append.1 hu with hu | hu
      · rcases List.mem_append.1 hu with hu | hu
        · obtain ⟨x, hx, rfl⟩ := List.mem_map.1 hu
          exact absurd (show (2 : Nat) = 6 from e) (by decide)
        · obtain rfl := List.mem_singleton.1 hu
          exact absurd (show (2 : Nat) = 25 from e) (by decide)
      · obtain ⟨y, hy1, rfl⟩ := List.mem_map.1 hu
        have k := (World.ownsRow.lt (hy y hy1).2 b hb').1
        rw [hpa] at hb
        injection hb with hb
        have : g1 = b := hb
        omega
    · refine List.pairwise_map.2 (hp.pw.imp_of_mem ?_)
      intro x x' hx hx' h _ b hb hb'
      obtain ⟨g, k1, _⟩ := hzf x hx
      obtain ⟨g', k1', _⟩ := hzf x' hx'
      have h1 := h g g' k1 k1'
      have e1 : (toldF x).2.1.ownBlock = some g := by show (Value.slice x.da x.dn x.dc).ownBlock = _; rw [show x.da = _ from k1]; rfl
      have e2 : (toldF x').2.1.ownBlock = some g' := by show (Value.slice x'.da x'.dn x'.dc).ownBlock = _; rw [show x'.da = _ from k1']; rfl
      rw [e1] at hb; rw [e2] at hb'
      injection hb with hb; injection hb' with hb'
      omega
    · obtain ⟨x, hx, rfl⟩ := List.mem_map.1 hu
      obtain rfl := List.mem_singleton.1 hv
      exact absurd (show (6 : Nat) = 25 from e) (by decide)
    · refine List.pairwise_map.2 (hpw.imp ?_)
      intro y y' h _ b hb hb'
      have := h b b hb hb'
      omega
    · obtain ⟨y, hy1, rfl⟩ := List.mem_map.1 hv
      rcases List.mem_append.1 hu with hu | hu
      · obtain ⟨x, hx, rfl⟩ := List.mem_map.1 hu
        exact absurd (show (6 : Nat) = 2 from e) (by decide)
      · obtain rfl := List.mem_singleton.1 hu
        exact absurd (show (25 : Nat) = 2 from e) (by decide)
theorem rdc_own {W : World} {B n cap : Nat} {e : TypeId} {a : Option Addr} {L : List Cy} (h : W.ownsRow B e 2 (.slice a n cap) L.length (flat Cy.cells L)) (i : Nat) (hi : i < L.length) : ∃ p, a = some ⟨p, 0, none⟩ ∧ p < W.heap.size ∧ W.cell? ⟨p, i * 2 + 1, none⟩ = some (.slice L[i].a L[i].xs.length L[i].cap) := by
  rcases h.2 with ⟨_, hn⟩ | ⟨g, c, cur, e, hg, hcur, _⟩
  · omega
  · injection e with e1 e2 e3
    subst e1
    have k1 := World.ownsRow.cells h rfl (i * 2 + 1) _ (flat_get cy_len L i 1 hi (by decide))
    rw [Addr.add_mid] at k1
    simp only [Nat.zero_add] at k1
    exact ⟨g, rfl, (World.ownsRow.lt h g rfl).2, k1⟩
end Go.Proofs.YtclhmggnkhnnlaaGreatDoor
