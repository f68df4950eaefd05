/- Pieces of the proof: MdJ, MdV. -/
import Derived.Test.YteflnicgohjiiaaGreatDoorM34
import Derived.RegionTactic
import Derived.Test.YteflnicgohjiiaaGreatDoorM32
import Derived.Test.YteflnicgohjiiaaGreatDoorM38
import Derived.Test.YteflnicgohjiiaaGreatDoorM17
import Derived.Test.YteflnicgohjiiaaGreatDoorM19
/- LeftEntries of a twin. -/
namespace Go.Proofs.YteflnicgohjiiaaGreatDoor
open Go.RowKit

theorem own_en {W : World} {B g n c : Nat} {l : List EnL} (h : W.ownsRow B 30 4 (.slice (some ⟨g, 0, none⟩) n c) n (flat EnL.cells l)) (k : Nat) (hk : k < l.length) : W.cell? ⟨g, k * 4, none⟩ = some (.slice l[k].ma l[k].e.ms.length l[k].mc) ∧ W.cell? ⟨g, k * 4 + 1, none⟩ = some (.int .i64 l[k].e.prio) ∧ W.cell? ⟨g, k * 4 + 2, none⟩ = some (.string l[k].e.act) ∧ W.cell? ⟨g, k * 4 + 3, none⟩ = some (.slice l[k].aa l[k].e.args.length l[k].ac) := by
  have c0 := own_cell en_len h rfl k hk 0 _ rfl
  have c1 := own_cell en_len h rfl k hk 1 _ rfl
  have c2 := own_cell en_len h rfl k hk 2 _ rfl
  have c3 := own_cell en_len h rfl k hk 3 _ rfl
  rw [Nat.zero_add] at c0 c1 c2 c3
  exact ⟨c0, c1, c2, c3⟩
set_option maxRecDepth 100000 in
set_option maxHeartbeats 8000000 in
theorem leftEs_yes (B g c : Nat) (a : Option Addr) (cap : Nat) (l zs : List EnL) (w : World) (hl : l.length ≤ 900000) (hr : RdE w a l) (hz : zs.length = l.length) (hO : w.ownsRow B 30 4 (.slice (some ⟨g, 0, none⟩) (l.length + 1) c) (l.length + 1) (flat EnL.cells (zs ++ [spE]))) (htw : ∀ i (h : i < zs.length) (h' : i < l.length), TwQ w B l[i] zs[i]) (hc : l.length + 1 ≤ c) (hcm : c ≤ maxLen) :
    Calls Tryz.prog 16 #[.slice (some ⟨g, 0, none⟩) l.length c, .slice a l.length cap] w fun e w' => e = .returned (.bool true) ∧ Below w.heap.size w w' := by
  have HR := hide hr
  have HO := hide hO
  have HZ := hide hz
  have HLF : Hid (∀ i (h : i < zs.length) (h' : i < l.length) W, Below w.heap.size w W → _) := fun i h h' W hb => leftEnQ_yes l[i] zs[i] W ((hr.below hb).ok _ (List.getElem_mem h')) ((htw i h h').below hb)
  have hcI : decide ((c : Int) ≤ (l.length : Int)) = false := by simp; omega
  have hcJ : ((c : Int) ≤ (l.length : Int)) = False := by simp; omega
  have hlI1 : (l.length : Int) + 1 ≤ (c : Int) := by omega
  have hcm' : c ≤ 9223372036854775807 := by unfold maxLen at hcm; omega
  have wl : IntKind.i64.wrap ((l.length : Int) + 1) = (l.length : Int) + 1 := by rw [IntKind.wrap_i64]; omega
  have hsp : (⟨#[115, 112, 97, 114, 101]⟩ : ByteArray) = ⟨#[115, 112, 97, 114, 101]⟩ := rfl
  clear hr hO htw hz hcm
  go_enter Tryz.func16, Tryz.ntmps16
  go_wp2
  go_loopw [5] (fun i wr => ∃ k : Nat, k ≤ l.length ∧ i = .int .i64 k ∧ Below w.heap.size w wr) (fun i _ => l.length - (intOf i).toNat)
  case atStart => exact ⟨0, by omega, rfl, Below.refl _ _⟩
  case round =>
    obtain ⟨k, hk, rfl, hnx⟩ := hrel
    have HN := hide hnx
    by_cases hlt : k < l.length
    · have hzk : k < zs.length := by have := HZ.out; omega
      obtain ⟨p, off, rfl, _, hcl⟩ := (HR.out.below hnx).some (by omega)
      obtain ⟨q0, q1, q2, q3⟩ := hcl k hlt
      obtain ⟨z0, z1, z2, z3⟩ := own_en (owR_below HO.out hnx) k (by simp; omega)
      rw [List.getElem_append_left hzk] at z0 z1 z2 z3
      have hkI : (k : Int) < (l.length : Int) := by omega
      have HLk : Hid (∀ W, Below w.heap.size w W → _) := fun W hb => HLF.out k hzk hlt W hb
      clear hcl hnx HR HO HLF
      generalize l[k] = x at *
      generalize zs[k] = z at *
      obtain ⟨⟨ms, prio, act, args⟩, ma, mc, aa, ac⟩ := x
      obtain ⟨⟨ms2, prio2, act2, args2⟩, ma2, mc2, aa2, ac2⟩ := z
      simp only [EnL.val] at *
      go_wp2
      go_region_with (go_at_call 17; refine (HLk.out _ HN.out.drew).mono ?_; rintro e w7 ⟨rfl, hb7⟩; have B7 := hide (HN.out.drew.trans (hb7.mono (by have := HN.out.size; exact this))); clear hb7)
      all_goals
        go_wp2
        go_roundw
        case rel => exact ⟨k + 1, by omega, by go_num, B7.out⟩
        case measure => simp [intOf]; omega
    · obtain rfl : k = l.length := by omega
      obtain ⟨z0, z1, z2, z3⟩ := own_en (owR_below HO.out hnx) l.length (by simp; have := HZ.out; omega)
      rw [List.getElem_append_right (by have := HZ.out; omega)] at z0 z1 z2 z3
      simp only [HZ.out, Nat.sub_self, List.getElem_singleton, spE, List.length_nil] at z0 z1 z2 z3
      clear HR HO HLF hnx
      go_wp2
      go_ret
      exact ⟨rfl, HN.out.alloc HN.out.size _⟩
end Go.Proofs.YteflnicgohjiiaaGreatDoor
/- MatchChanges: lists that a Book is told, by groups whose blocks lie one behind the other. -/
namespace Go.Proofs.YteflnicgohjiiaaGreatDoor
open Go.RowKit

structure Grp (W : World) (lo hi : Nat) (L : List (Nat × Value × Nat)) : Prop where
  ow : ∀ u ∈ L, OoB u.1 ∧ lvM u.1 = true ∧ (∃ xs, W.ownsRow lo (KM u.1).et (KM u.1).c u.2.1 u.2.2 xs) ∧ u.2.2 ≤ 100000000
  bd : ∀ u ∈ L, ∀ b, u.2.1.ownBlock = some b → lo ≤ b ∧ b < hi
  pw : L.Pairwise (fun u u' => u.1 = u'.1 → ∀ b, u.2.1.ownBlock = some b → u'.2.1.ownBlock ≠ some b)
theorem Grp.below {W W' : World} {lo hi : Nat} {L : List (Nat × Value × Nat)} (h : Grp W lo hi L) (hb : Below W.heap.size W W') : Grp W' lo hi L :=
  ⟨fun u hu => ⟨(h.ow u hu).1, (h.ow u hu).2.1, (h.ow u hu).2.2.1.imp fun _ hx => owR_below hx hb, (h.ow u hu).2.2.2⟩, h.bd, h.pw⟩
theorem Grp.then {W : World} {lo m m' hi : Nat} {L L' : List (Nat × Value × Nat)} (h : Grp W lo m L) (h' : Grp W m' hi L') (e1 : lo ≤ m') (e2 : m ≤ m') (e3 : m ≤ hi) : Grp W lo hi (L ++ L') := by
  refine ⟨fun u hu => ?_, fun u hu b hb => ?_, List.pairwise_append.2 ⟨h.pw, h'.pw, fun u hu u' hu' _ b h1 h2 => ?_⟩⟩
  · rcases List.mem_append.1 hu with hu | hu
    · exact h.ow u hu
    · exact ⟨(h'.ow u hu).1, (h'.ow u hu).2.1, (h'.ow u hu).2.2.1.imp fun _ hx => owR_lower hx e1, (h'.ow u hu).2.2.2⟩
  · rcases List.mem_append.1 hu with hu | hu
    · have := h.bd u hu b hb; omega
    · have := h'.bd u hu b hb; omega
  · have := h.bd u hu b h1
    have := h'.bd u' hu' b h2
    omega
theorem Grp.low {W : World} {lo lo' hi : Nat} {L : List (Nat × Value × Nat)} (h : Grp W lo hi L) (e : lo' ≤ lo) : Grp W lo' hi L :=
  ⟨fun u hu => ⟨(h.ow u hu).1, (h.ow u hu).2.1, (h.ow u hu).2.2.1.imp fun _ hx => owR_lower hx e, (h.ow u hu).2.2.2⟩, fun u hu b hb => ⟨Nat.le_trans e (h.bd u hu b hb).1, (h.bd u hu b hb).2⟩, h.pw⟩
/- The two lists of an entry are rows of one's own. -/
def EnW (W : World) (lo : Nat) (z : EnL) : Prop := (∃ xs, W.ownsRow lo 105 7 (.slice z.ma z.e.ms.length z.mc) z.e.ms.length xs) ∧ (∃ xs, W.ownsRow lo 86 3 (.slice z.aa z.e.args.length z.ac) z.e.args.length xs) ∧ z.e.ms.length ≤ 100000000 ∧ z.e.args.length ≤ 100000000
theorem oob9 : OoB 9 := ⟨by decide, by decide⟩
theorem oob6 : OoB 6 := ⟨by decide, by decide⟩
theorem oob18 : OoB 18 := ⟨by decide, by decide⟩
theorem toldE_mem {z : EnL} {u : Nat × Value × Nat} (h : u ∈ toldE z) : u = (9, .slice z.ma z.e.ms.length z.mc, z.e.ms.length) ∨ u = (6, .slice z.aa z.e.args.length z.ac, z.e.args.length) := by simpa [toldE] using h
theorem slice_blk {a : Option Addr} {n c b : Nat} (h : (Value.slice a n c).ownBlock = some b) : ∃ q, a = some q ∧ q.block = b := by
  cases a with
  | none => cases h
  | some ad => exact ⟨ad, rfl, by injection h⟩
theorem told_ow {W : World} {lo : Nat} {z : EnL} (h : EnW W lo z) {u : Nat × Value × Nat} (hu : u ∈ toldE z) : (OoB u.1 ∧ lvM u.1 = true ∧ (∃ xs, W.ownsRow lo (KM u.1).et (KM u.1).c u.2.1 u.2.2 xs) ∧ u.2.2 ≤ 100000000) ∧ ∀ b, u.2.1.ownBlock = some b → (lo ≤ b ∧ b < W.heap.size) ∧ z.blk b := by
  obtain ⟨⟨xs, h1⟩, ⟨ys, h2⟩, h3, h4⟩ := h
  rcases toldE_mem hu with rfl | rfl
  · refine ⟨⟨oob9, rfl, ⟨xs, h1⟩, h3⟩, fun b hb => ⟨World.ownsRow.lt h1 b hb, .inl (slice_blk hb)⟩⟩
  · refine ⟨⟨oob6, rfl, ⟨ys, h2⟩, h4⟩, fun b hb => ⟨World.ownsRow.lt h2 b hb, .inr (slice_blk hb)⟩⟩
theorem told_pw (z : EnL) : (toldE z).Pairwise (fun u u' => u.1 = u'.1 → ∀ b, u.2.1.ownBlock = some b → u'.2.1.ownBlock ≠ some b) := by
  unfold toldE
  refine List.pairwise_cons.2 ⟨fun u hu e => ?_, List.pairwise_singleton _ _⟩
  rw [List.mem_singleton.1 hu] at e
  exact absurd (show (9 : Nat) = 6 from e) (by decide)
theorem grp_e {W : World} {lo : Nat} {z : EnL} (h : EnW W lo z) : Grp W lo W.heap.size (toldE z) :=
  ⟨fun _ hu => (told_ow h hu).1, fun _ hu b hb => ((told_ow h hu).2 b hb).1, told_pw z⟩
theorem grp_es {W : World} {lo : Nat} {v : Value} {zs : List EnL} {xs : List Value} (hv : W.ownsRow lo 30 4 v zs.length xs) (hz : ∀ z ∈ zs, EnW W lo z) (pw : zs.Pairwise (fun z z' => ∀ b b', z.blk b → z'.blk b' → b < b')) (hn : zs.length ≤ 100000000) : Grp W lo W.heap.size (toldEs v zs) := by
  unfold toldEs
  refine ⟨fun u hu => ?_, fun u hu b hb => ?_, List.pairwise_append.2 ⟨List.pairwise_flatMap.2 ⟨fun z _ => told_pw z, List.Pairwise.imp_of_mem (fun {z z'} m1 m2 hlt u hu u' hu' _ b h1 h2 => ?_) pw⟩, List.pairwise_singleton _ _, fun u hu u' hu' e => ?_⟩⟩
  · rcases List.mem_append.1 hu with hu | hu
    · obtain ⟨z, m, hu⟩ := List.mem_flatMap.1 hu
      exact (told_ow (hz z m) hu).1
    · rw [List.mem_singleton.1 hu]
      exact ⟨oob18, rfl, ⟨xs, hv⟩, hn⟩
  · rcases List.mem_append.1 hu with hu | hu
    · obtain ⟨z, m, hu⟩ := List.mem_flatMap.1 hu
      exact ((told_ow (hz z m) hu).2 b hb).1
    · rw [List.mem_singleton.1 hu] at hb
      exact World.ownsRow.lt hv b hb
  · have := hlt b b ((told_ow (hz z m1) hu).2 b h1).2 ((told_ow (hz z' m2) hu').2 b h2).2
    omega
  · obtain ⟨z, m, hu⟩ := List.mem_flatMap.1 hu
    rw [List.mem_singleton.1 hu'] at e
    rcases toldE_mem hu with rfl | rfl
    · exact absurd (show (9 : Nat) = 18 from e) (by decide)
    · exact absurd (show (6 : Nat) = 18 from e) (by decide)
theorem TwQ.w {W : World} {B : Nat} {y z : EnL} (h : TwQ W B y z) (hy : EnR W y) : EnW W B z := by
  obtain ⟨g, e1, _, k1⟩ := h.ms
  obtain ⟨g2, e2, _, k2⟩ := h.args
  have e := h.e
  refine ⟨⟨_, by rw [e1, e]; exact k1⟩, ⟨_, by rw [e2, e]; exact k2⟩, ?_, ?_⟩
  · rw [e]; have := hy.mn; omega
  · rw [e]; have := hy.an; omega
theorem TwS.mem {w W : World} {v : Value} {l zs : List EnL} (h : TwS w W v l zs) {z : EnL} (hz : z ∈ zs) : ∃ y ∈ l, TwQ W w.heap.size y z := by
  obtain ⟨i, hi, rfl⟩ := List.getElem_of_mem hz
  have hl : i < l.length := Nat.lt_of_lt_of_le hi h.len
  exact ⟨l[i], List.getElem_mem hl, h.tw i hi hl⟩
theorem TwS.grp {w W : World} {v : Value} {l zs : List EnL} (h : TwS w W v l zs) (hl : ∀ y ∈ l, EnR W y) (hn : zs.length ≤ 100000000) : Grp W w.heap.size W.heap.size (toldEs v zs) :=
  grp_es h.own (fun z hz => by obtain ⟨y, hy, ht⟩ := h.mem hz; exact ht.w (hl y hy)) h.pw hn
theorem TwS.rd {w W : World} {g c n : Nat} {l zs : List EnL} (h : TwS w W (.slice (some ⟨g, 0, none⟩) n c) l zs) (hl : ∀ y ∈ l, EnR W y) : RdE W (some ⟨g, 0, none⟩) zs := by
  obtain ⟨a, c', e⟩ := owR_shape h.own
  injection e with e1 e2 e3
  subst e2
  refine ⟨.inr ⟨g, 0, rfl, (World.ownsRow.lt h.own g rfl).2, fun i hi => ?_⟩, fun z hz => by obtain ⟨y, hy, ht⟩ := h.mem hz; exact ht.en (hl y hy)⟩
  have key := own_cell en_len h.own rfl i hi
  exact ⟨key 0 _ rfl, key 1 _ rfl, key 2 _ rfl, key 3 _ rfl⟩
theorem TwS.ens {w W : World} {v : Value} {l zs : List EnL} (h : TwS w W v l zs) (hz : zs.length = l.length) : ens zs = ens l := by
  apply List.ext_getElem
  · simp [Go.Proofs.YteflnicgohjiiaaGreatDoor.ens, hz]
  · intro i h1 h2
    simp only [Go.Proofs.YteflnicgohjiiaaGreatDoor.ens, List.length_map] at h1 h2
    simp only [Go.Proofs.YteflnicgohjiiaaGreatDoor.ens, List.getElem_map]
    exact (h.tw i h1 h2).e
theorem TwS.below {w W W' : World} {v : Value} {l zs : List EnL} (h : TwS w W v l zs) (hb : Below W.heap.size W W') : TwS w W' v l zs :=
  ⟨bstep h.bl hb, owR_below h.own hb, h.len, fun i hi hl => (h.tw i hi hl).below hb, h.pw⟩
theorem Cq.grp {w W : World} {v : Value} {acc : List EnL} (h : Cq w W v acc) (hn : acc.length ≤ 100000000) : Grp W w.heap.size W.heap.size (toldEs v acc) :=
  grp_es h.cp.own (fun z hz => ⟨⟨_, (h.iw z hz).1⟩, ⟨_, (h.iw z hz).2⟩, by have := (h.cp.ok z hz).1.mn; omega, by have := (h.cp.ok z hz).1.an; omega⟩) h.pw hn
theorem of13_any (x : TbL) : Pure 12 #[x.val] x.val := fun w => by
  obtain ⟨⟨ks, ws, size⟩, ka, kc, wa, wc⟩ := x
  simp only [TbL.val]
  generalize ks.length = n1
  generalize ws.length = n2
  go_enter Tryz.func12, Tryz.ntmps12
  go_wp2
  refine bodyPost_ret (v := .agg #[.slice ka n1 kc, .slice wa n2 wc, .int .i64 size]) (by simp [results, Tryz.results12, go_sem]) rfl ⟨rfl, ?_⟩
  exact below2 _ _ _
theorem BoG.begin {w W : World} {lo hi : Nat} {L : List (Nat × Value × Nat)} (bl : Below w.heap.size w W) (h : Grp W lo hi L) (e : w.heap.size ≤ lo) (t : TypeId) : BoG KM lvM w W (W.alloc (.cells bk0 t)) 0 (fun _ => .slice none 0 0) (fun _ => []) L :=
  BoG.start bl (fun u hu => ⟨(h.ow u hu).1, (h.ow u hu).2.1, (h.ow u hu).2.2.1.imp fun _ hx => owR_lower hx e, (h.ow u hu).2.2.2⟩) h.pw t
/- A Book as it stands. -/
def BX (w Wg W : World) (n : Nat) (us : List (Nat × Value × Nat)) : Prop := ∃ v hs, BoG KM lvM w Wg W n v hs us
theorem BX.fg {w Wg W : World} {n : Nat} {us : List (Nat × Value × Nat)} (h : BX w Wg W n us) : Below Wg.heap.size Wg W := by
  obtain ⟨v, hs, h⟩ := h
  exact h.fg
theorem BX.entries {w Wg W : World} {n len : Nat} {us : List (Nat × Value × Nat)} {a : Option Addr} {cap : Nat} {zs : List EnL} (h : BX w Wg W n (toldEs (.slice a len cap) zs ++ us)) (e : zs.length = len) (hr : RdE Wg a zs) (hn : n + 2 * len < 700000) :
    Calls Tryz.prog 18 #[.pointer (some ⟨Wg.heap.size, 0, none⟩), .slice a len cap] W fun e W' => e = .returned (.tuple #[]) ∧ BX w Wg W' (n + 2 * len + 1) us := by
  subst e
  obtain ⟨v, hs, h⟩ := h
  exact h.entries a cap zs hr hn
theorem BX.entry {w Wg W : World} {n : Nat} {us : List (Nat × Value × Nat)} {z : EnL} (h : BX w Wg W n (toldE z ++ us)) (hn : n < 800000) :
    Calls Tryz.prog 19 #[.pointer (some ⟨Wg.heap.size, 0, none⟩), z.val] W fun e W' => e = .returned (.tuple #[]) ∧ BX w Wg W' (n + 2) us := by
  obtain ⟨v, hs, h⟩ := h
  exact h.entry z hn
theorem BX.apart {w Wg W : World} {n : Nat} (h : BX w Wg W n []) (O : BookOk KM lvM w w.heap.size) : Calls Tryz.prog 20 #[.pointer (some ⟨Wg.heap.size, 0, none⟩)] W fun e W' => e = .returned (.bool true) ∧ Below w.heap.size w W' := by
  obtain ⟨v, hs, h⟩ := h
  exact h.apart kM_ok O
end Go.Proofs.YteflnicgohjiiaaGreatDoor
