/- Pieces of the proof: CpI, TsB, TsHead, TsLHeads, TsIns, TsLInses, TsNode. -/
import Derived.Test.YtlipcmonlhdgfaaGreatM42
import Derived.Test.YtlipcmonlhdgfaaGreatM11
import Derived.Test.YtlipcmonlhdgfaaGreatM6
import Derived.Test.YtlipcmonlhdgfaaGreatM7
/- package code: the chapter's codes, by value. -/
namespace Go.Proofs.YtlipcmonlhdgfaaGreat
open Go.RowKit

def cZ : CoL := ⟨[], none, 0, [], none, 0, [], none, 0, [], none, 0, [], none, 0, [], none, 0, [], none, 0, [], none, 0, [], none, 0⟩
def cB (p q : Nat) (a : Option Addr) (cap : Nat) (l : List InL) : CoL := ⟨[16, 16], some ⟨p, 0, none⟩, 2, [], none, 0, [0, 1], some ⟨q, 0, none⟩, 2, [], none, 0, l, a, cap, [], none, 0, [], none, 0, [], none, 0, [], none, 0⟩
def iA : InL := ⟨⟨1, 0, 0, 0, 0, 0, [], ⟨16, 0, 5⟩, 0⟩, none, 0⟩
def iB : InL := ⟨⟨1, 0, 0, 0, 0, 0, [], ⟨8, 0, 5⟩, 0⟩, none, 0⟩
def iC : InL := ⟨⟨2, 0, 7, 0, 0, 0, [], ⟨0, 0, 0⟩, 0⟩, none, 0⟩
theorem chZ (D : Int → Int → Int → Int → Int → Int × Int × Int × Int) : chB D cZ = false := by rfl
theorem ch0 (D : Int → Int → Int → Int → Int → Int × Int × Int × Int) (p q : Nat) (a : Option Addr) (cap : Nat) : chB D (cB p q a cap []) = true := by rfl
theorem chA (D : Int → Int → Int → Int → Int → Int × Int × Int × Int) (p q : Nat) (a : Option Addr) (cap : Nat) : chB D (cB p q a cap [iA]) = true := by rfl
theorem chB' (D : Int → Int → Int → Int → Int → Int × Int × Int × Int) (p q : Nat) (a : Option Addr) (cap : Nat) : chB D (cB p q a cap [iB]) = false := by rfl
theorem chC (D : Int → Int → Int → Int → Int → Int × Int × Int × Int) (p q : Nat) (a : Option Addr) (cap : Nat) : chB D (cB p q a cap [iC]) = false := by rfl
theorem coR_Z (W : World) : CoR W cZ := by
  refine ⟨⟨.inl rfl, by decide, fun z hz => by cases hz⟩, ⟨.inl rfl, by decide, fun z hz => by cases hz⟩, ⟨.inl rfl, by decide, fun z hz => by cases hz⟩, ⟨.inl rfl, by decide, fun z hz => by cases hz⟩, ⟨.inl rfl, by decide, fun z hz => by cases hz⟩, ⟨.inl rfl, by decide, fun z hz => by cases hz⟩, ⟨.inl rfl, by decide, fun z hz => by cases hz⟩, ⟨.inl rfl, by decide, fun z hz => by cases hz⟩, ⟨.inl rfl, by decide, fun z hz => by cases hz⟩⟩
theorem coR_B {W : World} {p q : Nat} {a : Option Addr} {cap : Nat} {l : List InL} (h1 : RdZ W (some ⟨p, 0, none⟩) [16, 16]) (h2 : RdZ W (some ⟨q, 0, none⟩) [0, 1]) (h3 : InsR W a l) : CoR W (cB p q a cap l) := by
  refine ⟨⟨h1, by simp [cB], fun z hz => ?_⟩, ⟨.inl rfl, by simp [cB], fun z hz => by cases hz⟩, ⟨h2, by simp [cB], fun z hz => ?_⟩, ⟨.inl rfl, by simp [cB], fun z hz => by cases hz⟩, h3, ⟨.inl rfl, by simp [cB], fun z hz => by cases hz⟩, ⟨.inl rfl, by simp [cB], fun z hz => by cases hz⟩, ⟨.inl rfl, by simp [cB], fun z hz => by cases hz⟩, ⟨.inl rfl, by simp [cB], fun z hz => by cases hz⟩⟩
  · simp [cB] at hz; subst hz; unfold i64R; omega
  · simp [cB] at hz; unfold i64R; omega
theorem insR_one (W : World) (x : InL) (hx : x.v.l = []) (h : u8R x.v.op ∧ i64R x.v.to ∧ i64R x.v.a ∧ i64R x.v.b ∧ i64R x.v.n ∧ i64R x.v.m ∧ NbR x.v.lit ∧ u8R x.v.of) : InsR (W.alloc (.cells x.cells.toArray 59)) (some ⟨W.heap.size, 0, none⟩) [x] := by
  refine ⟨.inr ⟨W.heap.size, 0, rfl, by simp, fun i hi j u hu => ?_⟩, by simp, fun y hy => ?_⟩
  · have hi0 : i = 0 := by simpa using hi
    subst hi0
    rw [Nat.zero_mul, Nat.zero_add]
    try rw [Nat.zero_add]
    refine (cellA (heap_alloc_new W _) j).trans ?_
    simpa using hu
  · obtain rfl := List.mem_singleton.1 hy
    obtain ⟨h1, h2, h3, h4, h5, h6, h7, h8⟩ := h
    exact ⟨.inl hx, by rw [hx]; simp, fun z hz => (by rw [hx] at hz; cases hz), h1, h2, h3, h4, h5, h6, h7, h8⟩
theorem insR_nil (W : World) (a : Option Addr) : InsR W a [] := ⟨.inl rfl, by simp, fun z hz => by cases hz⟩
theorem rdZ_two {W : World} {b : Nat} {x y : Int} {t : TypeId} (h : W.heap[b]? = some (.cells #[.int .i64 x, .int .i64 y] t (0, 0))) : RdZ W (some ⟨b, 0, none⟩) [x, y] := by
  refine .inr ⟨b, 0, rfl, lt_heap h, fun i hi => ?_⟩
  rw [Nat.zero_add]
  refine (cellA h i).trans ?_
  have : i < 2 := by simpa using hi
  rcases i with _ | _ | i
  · rfl
  · rfl
  · omega
set_option maxRecDepth 100000 in
theorem szCo : ∀ w : World, (sizeOf 30).run Tryz.prog w = .ok 9 w := fun w => by rfl
set_option maxRecDepth 100000 in
theorem agCo : ∀ w : World, (isAgg 30).run Tryz.prog w = .ok true w := fun w => by rfl
set_option maxRecDepth 100000 in
set_option maxHeartbeats 4000000 in
theorem bare_any (a : Option Addr) (n cap : Nat) (w : World) : Calls Tryz.prog 18 #[.slice a n cap] w fun e w' => ∃ p q : Nat, e = .returned (.agg #[.slice (some ⟨p, 0, none⟩) 2 2, .slice none 0 0, .slice (some ⟨q, 0, none⟩) 2 2, .slice none 0 0, .slice a n cap, .slice none 0 0, .slice none 0 0, .slice none 0 0, .slice none 0 0]) ∧ RdZ w' (some ⟨p, 0, none⟩) [16, 16] ∧ RdZ w' (some ⟨q, 0, none⟩) [0, 1] ∧ Below w.heap.size w w' := by
  obtain ⟨cs, hcs⟩ : ∃ cs : List Value, cs = [.slice (some ⟨w.heap.size + 1, 0, none⟩) 2 2, .slice none 0 0, .slice (some ⟨w.heap.size + 2, 0, none⟩) 2 2, .slice none 0 0, .slice a n cap, .slice none 0 0, .slice none 0 0, .slice none 0 0, .slice none 0 0] := ⟨_, rfl⟩
  have HO : Hid (∀ v ∈ cs, v.oneCell' = true) := fun v hv => by
    rw [hcs] at hv
    simp only [List.mem_cons, List.not_mem_nil, or_false] at hv
    rcases hv with rfl | rfl | rfl | rfl | rfl | rfl | rfl | rfl | rfl <;> rfl
  have HL : Hid (cs.length = 9) := by show _ = _; rw [hcs]; rfl
  have ea : (#[.slice (some ⟨w.heap.size + 1, 0, none⟩) 2 2, .slice none 0 0, .slice (some ⟨w.heap.size + 2, 0, none⟩) 2 2, .slice none 0 0, .slice a n cap, .slice none 0 0, .slice none 0 0, .slice none 0 0, .slice none 0 0] : Array Value) = cs.toArray := by rw [hcs]
  have EA := hide ea
  have E1 : Hid ((((w.alloc (.cells #[.slice none 0 0, .slice none 0 0, .slice none 0 0, .slice none 0 0, .slice none 0 0, .slice none 0 0, .slice none 0 0, .slice none 0 0, .slice none 0 0] 30)).alloc (.cells #[.int .i64 16, .int .i64 16] 3)).alloc (.cells #[.int .i64 0, .int .i64 1] 3)).heap[w.heap.size]? = some (.cells #[.slice none 0 0, .slice none 0 0, .slice none 0 0, .slice none 0 0, .slice none 0 0, .slice none 0 0, .slice none 0 0, .slice none 0 0, .slice none 0 0] 30 (0, 0))) := heap_past _ (heap_past _ (heap_alloc_new w _))
  have E2 : Hid ((((w.alloc (.cells #[.slice none 0 0, .slice none 0 0, .slice none 0 0, .slice none 0 0, .slice none 0 0, .slice none 0 0, .slice none 0 0, .slice none 0 0, .slice none 0 0] 30)).alloc (.cells #[.int .i64 16, .int .i64 16] 3)).alloc (.cells #[.int .i64 0, .int .i64 1] 3)).heap[w.heap.size + 1]? = some (.cells #[.int .i64 16, .int .i64 16] 3 (0, 0))) := heap_past _ (heap_snd w _ _ _)
  have E3 : Hid ((((w.alloc (.cells #[.slice none 0 0, .slice none 0 0, .slice none 0 0, .slice none 0 0, .slice none 0 0, .slice none 0 0, .slice none 0 0, .slice none 0 0, .slice none 0 0] 30)).alloc (.cells #[.int .i64 16, .int .i64 16] 3)).alloc (.cells #[.int .i64 0, .int .i64 1] 3)).heap[w.heap.size + 2]? = some (.cells #[.int .i64 0, .int .i64 1] 3 (0, 0))) := by
    have h := heap_snd (w.alloc (.cells #[.slice none 0 0, .slice none 0 0, .slice none 0 0, .slice none 0 0, .slice none 0 0, .slice none 0 0, .slice none 0 0, .slice none 0 0, .slice none 0 0] 30)) (.cells #[.int .i64 16, .int .i64 16] 3) #[.int .i64 0, .int .i64 1] 3
    rw [World.size_alloc] at h
    exact h
  have BB : Hid (Below w.heap.size w (((w.alloc (.cells #[.slice none 0 0, .slice none 0 0, .slice none 0 0, .slice none 0 0, .slice none 0 0, .slice none 0 0, .slice none 0 0, .slice none 0 0, .slice none 0 0] 30)).alloc (.cells #[.int .i64 16, .int .i64 16] 3)).alloc (.cells #[.int .i64 0, .int .i64 1] 3))) := bstep (below2 w _ _) (below1 _ _)
  have EX : Hid (Ending.returned (.agg cs.toArray) = .returned (.agg #[.slice (some ⟨w.heap.size + 1, 0, none⟩) 2 2, .slice none 0 0, .slice (some ⟨w.heap.size + 2, 0, none⟩) 2 2, .slice none 0 0, .slice a n cap, .slice none 0 0, .slice none 0 0, .slice none 0 0, .slice none 0 0])) := by show _ = _; rw [ea]
  clear ea hcs
  go_enter Tryz.func18, Tryz.ntmps18
  go_wp2_with (refine wpList_storeA rfl 30 _ _ rfl w.heap.size cs _ 30 rfl (by rw [← EA.out]; rfl) (by rw [HL.out]; exact szCo) E1.out (by rw [HL.out]; rfl) HO.out ?_; intro w5 hw5; have Z5 : Hid (w5.heap[w.heap.size]? = some (.cells cs.toArray 30 (0, 0))) := (by show _ = _; rw [hw5]; exact got0 E1.out (by rw [HL.out]; rfl)); have F5 : Hid (Fr (· = w.heap.size) _ w5) := (by rw [hw5]; exact fr_all _ _ _ _); clear hw5)
  have R1 := hide ((F5.out.block (w.heap.size + 1) (lt_heap E2.out) (by omega)).trans E2.out)
  have R2 := hide ((F5.out.block (w.heap.size + 2) (lt_heap E3.out) (by omega)).trans E3.out)
  have B5 := hide (((Fr.ofBelow (E := (· = w.heap.size)) BB.out).trans F5.out (fun b _ e => e)).below (fun b e => by omega) (Nat.le_refl _))
  exact bodyPost_ret (res_cell (cs := cs) (e := 30) Tryz.results18 rfl agCo (by rw [HL.out]; exact szCo) Z5.out) rfl ⟨w.heap.size + 1, w.heap.size + 2, EX.out, rdZ_two R1.out, rdZ_two R2.out, B5.out⟩
set_option maxRecDepth 100000 in
set_option maxHeartbeats 4000000 in
theorem lives12_any (D : Int → Int → Int → Int → Int → Int × Int × Int × Int) (hD : DoOk D) (w : World) : Calls Tryz.prog 6 #[] w fun e w' => e = .returned (.bool true) ∧ Below w.heap.size w w' := by
  have HB := hide (fun (W : World) (a : Option Addr) (n cap : Nat) => bare_any a n cap W)
  have HZ : Hid (∀ W, Calls Tryz.prog 8 #[.agg #[.slice none 0 0, .slice none 0 0, .slice none 0 0, .slice none 0 0, .slice none 0 0, .slice none 0 0, .slice none 0 0, .slice none 0 0, .slice none 0 0]] W fun e w' => e = .returned (.int .i64 8) ∧ Below W.heap.size W w') := fun W => by
    have := codeCheck_any D hD cZ W (coR_Z W) (by decide)
    rw [chZ] at this; exact this
  have H0 : Hid (∀ (W : World) (p q : Nat) (a : Option Addr) (cap : Nat), RdZ W (some ⟨p, 0, none⟩) [16, 16] → RdZ W (some ⟨q, 0, none⟩) [0, 1] → Calls Tryz.prog 8 #[.agg #[.slice (some ⟨p, 0, none⟩) 2 2, .slice none 0 0, .slice (some ⟨q, 0, none⟩) 2 2, .slice none 0 0, .slice a 0 cap, .slice none 0 0, .slice none 0 0, .slice none 0 0, .slice none 0 0]] W fun e w' => e = .returned (.int .i64 0) ∧ Below W.heap.size W w') := fun W p q a cap h1 h2 => by
    have := codeCheck_any D hD (cB p q a cap []) W (coR_B h1 h2 (insR_nil W a)) (Nat.le_refl 2)
    rw [ch0] at this; exact this
  have HX : Hid (∀ x : InL, x.v.l = [] → (u8R x.v.op ∧ i64R x.v.to ∧ i64R x.v.a ∧ i64R x.v.b ∧ i64R x.v.n ∧ i64R x.v.m ∧ NbR x.v.lit ∧ u8R x.v.of) → ∀ t : Bool, (∀ (p q : Nat) (a : Option Addr) (cap : Nat), chB D (cB p q a cap [x]) = t) → ∀ (W W' : World) (p q : Nat), Below (W.alloc (.cells x.cells.toArray 59)).heap.size (W.alloc (.cells x.cells.toArray 59)) W' → RdZ W' (some ⟨p, 0, none⟩) [16, 16] → RdZ W' (some ⟨q, 0, none⟩) [0, 1] → Calls Tryz.prog 8 #[.agg #[.slice (some ⟨p, 0, none⟩) 2 2, .slice none 0 0, .slice (some ⟨q, 0, none⟩) 2 2, .slice none 0 0, .slice (some ⟨W.heap.size, 0, none⟩) 1 1, .slice none 0 0, .slice none 0 0, .slice none 0 0, .slice none 0 0]] W' fun e w' => e = .returned (.int .i64 (if t then 0 else 8)) ∧ Below W'.heap.size W' w') := fun x hx hr t ht W W' p q hb h1 h2 => by
    have := codeCheck_any D hD (cB p q (some ⟨W.heap.size, 0, none⟩) 1 [x]) W' (coR_B h1 h2 ((insR_one W x hx hr).below hb)) (Nat.le_refl 2)
    rw [ht] at this; exact this
  have HA := hide (HX.out iA rfl ⟨by simp [iA, u8R], by simp [iA, i64R], by simp [iA, i64R], by simp [iA, i64R], by simp [iA, i64R], by simp [iA, i64R], ⟨by simp [iA, i64R], by simp [iA, u64R], by simp [iA, u64R]⟩, by simp [iA, u8R]⟩ true (chA D))
  have HBB := hide (HX.out iB rfl ⟨by simp [iB, u8R], by simp [iB, i64R], by simp [iB, i64R], by simp [iB, i64R], by simp [iB, i64R], by simp [iB, i64R], ⟨by simp [iB, i64R], by simp [iB, u64R], by simp [iB, u64R]⟩, by simp [iB, u8R]⟩ false (chB' D))
  have HCC := hide (HX.out iC rfl ⟨by simp [iC, u8R], by simp [iC, i64R], by simp [iC, i64R], by simp [iC, i64R], by simp [iC, i64R], by simp [iC, i64R], ⟨by simp [iC, i64R], by simp [iC, u64R], by simp [iC, u64R]⟩, by simp [iC, u8R]⟩ false (chC D))
  clear HX hD
  simp only [iA, iB, iC, InL.cells, reduceIte, Bool.false_eq_true] at HA HBB HCC
  go_enter Tryz.func6, Tryz.ntmps6
  go_wp2_with fail
  refine (HZ.out _).mono ?_
  rintro e w1 ⟨rfl, hb⟩
  have B1 := hide hb
  clear hb HZ
  go_wp2_with fail
  refine (HB.out _ _ _ _).mono ?_
  rintro e w2 ⟨p2, q2, rfl, h1, h2, hb⟩
  have B2 := hide (bstep B1.out hb)
  have HC := hide (H0.out w2 p2 q2 none 0 h1 h2)
  clear hb h1 h2 H0
  go_wp2_with fail
  refine HC.out.mono ?_
  rintro e w3 ⟨rfl, hb⟩
  have B3 := hide (bstep B2.out hb)
  clear hb HC
  go_wp2_with fail
  refine (HB.out _ _ _ _).mono ?_
  rintro e w4 ⟨p4, q4, rfl, h1, h2, hb⟩
  have B4 := hide (bstep B3.out (bstep (below1 _ _) hb))
  have HC := hide (HA.out w3 w4 p4 q4 hb h1 h2)
  clear hb h1 h2 HA
  go_wp2_with fail
  refine HC.out.mono ?_
  rintro e w5 ⟨rfl, hb⟩
  have B5 := hide (bstep B4.out hb)
  clear hb HC
  go_wp2_with fail
  refine (HB.out _ _ _ _).mono ?_
  rintro e w6 ⟨p6, q6, rfl, h1, h2, hb⟩
  have B6 := hide (bstep B5.out (bstep (below1 _ _) hb))
  have HC := hide (HBB.out w5 w6 p6 q6 hb h1 h2)
  clear hb h1 h2 HBB
  go_wp2_with fail
  refine HC.out.mono ?_
  rintro e w7 ⟨rfl, hb⟩
  have B7 := hide (bstep B6.out hb)
  clear hb HC
  go_wp2_with fail
  refine (HB.out _ _ _ _).mono ?_
  rintro e w8 ⟨p8, q8, rfl, h1, h2, hb⟩
  have B8 := hide (bstep B7.out (bstep (below1 _ _) hb))
  have HC := hide (HCC.out w7 w8 p8 q8 hb h1 h2)
  clear hb h1 h2 HCC
  go_wp2_with fail
  refine HC.out.mono ?_
  rintro e w9 ⟨rfl, hb⟩
  have B9 := hide (bstep B8.out hb)
  clear hb HC
  go_wp2
  go_ret
  exact ⟨rfl, B9.out⟩
end Go.Proofs.YtlipcmonlhdgfaaGreat
/- How great flat lists are. -/
namespace Go.Proofs.YtlipcmonlhdgfaaGreat
open Go.RowKit

theorem zsSize_any (a : Option Addr) (n c : Nat) (w : World) : Calls Tryz.prog 11 #[.slice a n c] w fun e w' => e = .returned (.int .i64 (n : Int)) ∧ w' = w := by
  go_enter Tryz.func11, Tryz.ntmps11
  go_wp2
  go_ret
  exact ⟨rfl, rfl⟩
theorem nsSize_any (a : Option Addr) (n c : Nat) (w : World) : Calls Tryz.prog 104 #[.slice a n c] w fun e w' => e = .returned (.int .i64 (n : Int)) ∧ w' = w := by
  go_enter Tryz.func104, Tryz.ntmps104
  go_wp2
  go_ret
  exact ⟨rfl, rfl⟩
theorem jsSize_any (a : Option Addr) (n c : Nat) (w : World) : Calls Tryz.prog 102 #[.slice a n c] w fun e w' => e = .returned (.int .i64 (n : Int)) ∧ w' = w := by
  go_enter Tryz.func102, Tryz.ntmps102
  go_wp2
  go_ret
  exact ⟨rfl, rfl⟩
theorem ksSize_any (a : Option Addr) (n c : Nat) (w : World) : Calls Tryz.prog 103 #[.slice a n c] w fun e w' => e = .returned (.int .i64 (n : Int)) ∧ w' = w := by
  go_enter Tryz.func103, Tryz.ntmps103
  go_wp2
  go_ret
  exact ⟨rfl, rfl⟩
end Go.Proofs.YtlipcmonlhdgfaaGreat
/- HeadSize. -/
namespace Go.Proofs.YtlipcmonlhdgfaaGreat
open Go.RowKit

set_option maxRecDepth 100000 in
set_option maxHeartbeats 4000000 in
theorem szHead_any (y : HdL) (w : World) (hy : HdO w y) : Calls Tryz.prog 41 #[.agg y.cells.toArray] w fun e w' => ∃ n : Nat, e = .returned (.int .i64 n) ∧ n ≤ 281474976710656 ∧ (n ≤ 1048576 → smHead n y) ∧ Below w.heap.size w w' := by
  have K0 := hide (heap_alloc_new w (.cells y.cells.toArray 91))
  have B0 := hide (below1 w (.cells y.cells.toArray 91))
  have H0 : Hid (∀ W, _) := fun W => zsSize_any y.a y.l.length y.c W
  have l0 : Hid (y.l.length ≤ 140737488355328) := (show IsO w y.a y.l from hy).ln
  clear hy
  obtain ⟨l, la, lc⟩ := y
  simp only [HdL.cells] at *
  have c0 := (cellA K0.out 0).trans rfl
  go_enter Tryz.func41, Tryz.ntmps41
  go_wp2_with fail
  refine (H0.out _).mono ?_
  rintro e w1 ⟨rfl, rfl⟩
  obtain ⟨N1, hN1⟩ : ∃ x, x = 1 + l.length := ⟨_, rfl⟩
  have e1 : IntKind.i64.wrap (1 + (l.length : Int)) = (N1 : Int) := by rw [IntKind.wrap_i64]; have := l0.out; omega
  have HN1 := hide hN1
  clear hN1
  clear H0
  go_wp2
  go_ret
  exact ⟨N1, rfl, by have := l0.out; have := HN1.out; omega, fun h => by simp only [smHead]; have := l0.out; have := HN1.out; omega, B0.out⟩
end Go.Proofs.YtlipcmonlhdgfaaGreat
/- HeadsSize. -/
namespace Go.Proofs.YtlipcmonlhdgfaaGreat
open Go.RowKit

set_option maxRecDepth 100000 in
set_option maxHeartbeats 4000000 in
theorem szHeads_any (a : Option Addr) (cap : Nat) (l : List HdL) (w : World) (hr : LsO 1 HdL.cells HdO w a l) : Calls Tryz.prog 12 #[.slice a l.length cap] w fun e w' => ∃ n : Nat, e = .returned (.int .i64 n) ∧ n ≤ 562949953421312 ∧ (n ≤ 1048576 → smL smHead n l) ∧ Below w.heap.size w w' := by
  have HR := hide hr.rd
  have HC : Hid (∀ k (h : k < l.length) W, Below w.heap.size w W → _) := fun k h W hb => szHead_any l[k] W (IsO.below (hr.ok _ (List.getElem_mem h)) hb)
  have HL : Hid (l.length ≤ 140737488355328) := hr.ln
  clear hr
  have hL := HL.out
  go_enter Tryz.func12, Tryz.ntmps12
  go_wp2
  go_loopw [3, 4] (fun n i wr => ∃ k m : Nat, k ≤ l.length ∧ i = .int .i64 k ∧ n = .int .i64 m ∧ l.length ≤ m ∧ m ≤ 562949953421312 ∧ (m ≤ 1048576 → ∀ x ∈ l.take k, smHead m x) ∧ Below w.heap.size w wr) (fun _ i _ => l.length - (intOf i).toNat)
  case atStart => exact ⟨0, l.length, by omega, rfl, rfl, Nat.le_refl _, by omega, fun _ x hx => by simp at hx, Below.refl _ _⟩
  case round =>
    obtain ⟨k, m, hk, rfl, rfl, hlm, hm, hsm, hb⟩ := hrel
    have HS := hide hsm
    have HW := hide hb
    clear hsm hb
    by_cases hlt : k < l.length
    · have hlI : (k : Int) < (l.length : Int) := by omega
      by_cases hmost : m ≤ 1048576
      · have d1 : ((m : Int) ≤ 1048576) = True := by simp; omega
        obtain ⟨p, off, rfl, hp, hcl⟩ := (HR.out.below HW.out).some (by omega)
        have hc := hcl k hlt
        simp only [Nat.mul_one] at hc
        have HD := hide (HC.out k hlt _ HW.out)
        have HT := hide (List.take_succ_eq_append_getElem hlt)
        clear hcl hp HR HC
        have HLN : Hid (l[k].cells.length = 1) := rfl
        have HCC := hide hc
        clear hc
        generalize hxx : l[k] = x at *
        clear hxx
        generalize x.cells = cs at *
        have hkb : k < 140737488355328 := by omega
        go_wp2_with (first
          | (refine wpList_loadW rfl 91 _ rfl p (off + k) cs rfl agqHeads (by rw [HLN.out]; exact szqHeads) HCC.out ?_)
          | (go_at_call 41; refine HD.out.mono ?_; rintro e w1 ⟨z, rfl, hz, hsz, hb⟩; have B1 := hide hb; have SZ := hide hsz; clear hb hsz; have hw1 : IntKind.i64.wrap ((m : Int) + (z : Int)) = ((m + z : Nat) : Int) := (by rw [IntKind.wrap_i64]; omega)))
        go_roundw
        case rel => exact ⟨k + 1, m + z, by omega, by go_num, by first | rfl | (go_num; done), by omega, by omega, fun hle y hy => (by
          rw [HT.out] at hy
          rcases List.mem_append.1 hy with hy | hy
          · exact smHead.mono (HS.out hmost y hy) (by omega)
          · obtain rfl := List.mem_singleton.1 hy
            exact smHead.mono (SZ.out (by omega)) (by omega)), bstep HW.out B1.out⟩
        case measure => simp [intOf]; omega
      · have d1 : ((m : Int) ≤ 1048576) = False := by simp; omega
        clear HR HC
        go_wp2
        go_ret
        exact ⟨m, rfl, hm, fun h => absurd h hmost, HW.out⟩
    · obtain rfl : k = l.length := by omega
      clear HR HC
      go_wp2
      go_ret
      exact ⟨m, rfl, hm, fun h => ⟨hlm, fun x hx => HS.out h x (by rw [List.take_length]; exact hx)⟩, HW.out⟩
end Go.Proofs.YtlipcmonlhdgfaaGreat
/- InsSize. -/
namespace Go.Proofs.YtlipcmonlhdgfaaGreat
open Go.RowKit

set_option maxRecDepth 100000 in
set_option maxHeartbeats 4000000 in
theorem szIns_any (y : InL) (w : World) (hy : InO w y) : Calls Tryz.prog 43 #[.agg y.cells.toArray] w fun e w' => ∃ n : Nat, e = .returned (.int .i64 n) ∧ n ≤ 281474976710656 ∧ (n ≤ 1048576 → smIns n y) ∧ Below w.heap.size w w' := by
  have K0 := hide (heap_alloc_new w (.cells y.cells.toArray 59))
  have B0 := hide (below1 w (.cells y.cells.toArray 59))
  have H0 : Hid (∀ W, _) := fun W => zsSize_any y.la y.v.l.length y.lc W
  have l0 : Hid (y.v.l.length ≤ 140737488355328) := hy.l.ln
  clear hy
  obtain ⟨⟨op, to, a, b, n, m, l, ⟨lw, lh, ll⟩, of⟩, la, lc⟩ := y
  simp only [InL.cells] at *
  have c0 := (cellA K0.out 0).trans rfl
  have c1 := (cellA K0.out 1).trans rfl
  have c2 := (cellA K0.out 2).trans rfl
  have c3 := (cellA K0.out 3).trans rfl
  have c4 := (cellA K0.out 4).trans rfl
  have c5 := (cellA K0.out 5).trans rfl
  have c6 := (cellA K0.out 6).trans rfl
  have c7 := (cellA K0.out 7).trans rfl
  have c8 := (cellA K0.out 8).trans rfl
  have c9 := (cellA K0.out 9).trans rfl
  have c10 := (cellA K0.out 10).trans rfl
  go_enter Tryz.func43, Tryz.ntmps43
  go_wp2_with fail
  refine (H0.out _).mono ?_
  rintro e w1 ⟨rfl, rfl⟩
  obtain ⟨N1, hN1⟩ : ∃ x, x = 1 + l.length := ⟨_, rfl⟩
  have e1 : IntKind.i64.wrap (1 + (l.length : Int)) = (N1 : Int) := by rw [IntKind.wrap_i64]; have := l0.out; omega
  have HN1 := hide hN1
  clear hN1
  clear H0
  go_wp2
  go_ret
  exact ⟨N1, rfl, by have := l0.out; have := HN1.out; omega, fun h => by simp only [smIns]; have := l0.out; have := HN1.out; omega, B0.out⟩
end Go.Proofs.YtlipcmonlhdgfaaGreat
/- InsesSize. -/
namespace Go.Proofs.YtlipcmonlhdgfaaGreat
open Go.RowKit

set_option maxRecDepth 100000 in
set_option maxHeartbeats 4000000 in
theorem szInses_any (a : Option Addr) (cap : Nat) (l : List InL) (w : World) (hr : LsO 11 InL.cells InO w a l) : Calls Tryz.prog 14 #[.slice a l.length cap] w fun e w' => ∃ n : Nat, e = .returned (.int .i64 n) ∧ n ≤ 562949953421312 ∧ (n ≤ 1048576 → smL smIns n l) ∧ Below w.heap.size w w' := by
  have HR := hide hr.rd
  have HC : Hid (∀ k (h : k < l.length) W, Below w.heap.size w W → _) := fun k h W hb => szIns_any l[k] W ((hr.ok _ (List.getElem_mem h)).below hb)
  have HL : Hid (l.length ≤ 140737488355328) := hr.ln
  clear hr
  have hL := HL.out
  go_enter Tryz.func14, Tryz.ntmps14
  go_wp2
  go_loopw [3, 4] (fun n i wr => ∃ k m : Nat, k ≤ l.length ∧ i = .int .i64 k ∧ n = .int .i64 m ∧ l.length ≤ m ∧ m ≤ 562949953421312 ∧ (m ≤ 1048576 → ∀ x ∈ l.take k, smIns m x) ∧ Below w.heap.size w wr) (fun _ i _ => l.length - (intOf i).toNat)
  case atStart => exact ⟨0, l.length, by omega, rfl, rfl, Nat.le_refl _, by omega, fun _ x hx => by simp at hx, Below.refl _ _⟩
  case round =>
    obtain ⟨k, m, hk, rfl, rfl, hlm, hm, hsm, hb⟩ := hrel
    have HS := hide hsm
    have HW := hide hb
    clear hsm hb
    by_cases hlt : k < l.length
    · have hlI : (k : Int) < (l.length : Int) := by omega
      by_cases hmost : m ≤ 1048576
      · have d1 : ((m : Int) ≤ 1048576) = True := by simp; omega
        obtain ⟨p, off, rfl, hp, hcl⟩ := (HR.out.below HW.out).some (by omega)
        have hc := hcl k hlt
        have HD := hide (HC.out k hlt _ HW.out)
        have HT := hide (List.take_succ_eq_append_getElem hlt)
        clear hcl hp HR HC
        have HLN : Hid (l[k].cells.length = 11) := rfl
        have HCC := hide hc
        clear hc
        generalize hxx : l[k] = x at *
        clear hxx
        generalize x.cells = cs at *
        have hkb : k < 140737488355328 := by omega
        go_wp2_with (first
          | (refine wpList_loadW rfl 59 _ rfl p (off + k * 11) cs rfl agqInses (by rw [HLN.out]; exact szqInses) HCC.out ?_)
          | (go_at_call 43; refine HD.out.mono ?_; rintro e w1 ⟨z, rfl, hz, hsz, hb⟩; have B1 := hide hb; have SZ := hide hsz; clear hb hsz; have hw1 : IntKind.i64.wrap ((m : Int) + (z : Int)) = ((m + z : Nat) : Int) := (by rw [IntKind.wrap_i64]; omega)))
        go_roundw
        case rel => exact ⟨k + 1, m + z, by omega, by go_num, by first | rfl | (go_num; done), by omega, by omega, fun hle y hy => (by
          rw [HT.out] at hy
          rcases List.mem_append.1 hy with hy | hy
          · exact smIns.mono (HS.out hmost y hy) (by omega)
          · obtain rfl := List.mem_singleton.1 hy
            exact smIns.mono (SZ.out (by omega)) (by omega)), bstep HW.out B1.out⟩
        case measure => simp [intOf]; omega
      · have d1 : ((m : Int) ≤ 1048576) = False := by simp; omega
        clear HR HC
        go_wp2
        go_ret
        exact ⟨m, rfl, hm, fun h => absurd h hmost, HW.out⟩
    · obtain rfl : k = l.length := by omega
      clear HR HC
      go_wp2
      go_ret
      exact ⟨m, rfl, hm, fun h => ⟨hlm, fun x hx => HS.out h x (by rw [List.take_length]; exact hx)⟩, HW.out⟩
end Go.Proofs.YtlipcmonlhdgfaaGreat
/- NodeSize. -/
namespace Go.Proofs.YtlipcmonlhdgfaaGreat
open Go.RowKit

set_option maxRecDepth 100000 in
set_option maxHeartbeats 4000000 in
theorem szNode_any (y : NdL) (w : World) (hy : NdO w y) : Calls Tryz.prog 42 #[.agg y.cells.toArray] w fun e w' => ∃ n : Nat, e = .returned (.int .i64 n) ∧ n ≤ 1125899906842624 ∧ (n ≤ 1048576 → smNode n y) ∧ Below w.heap.size w w' := by
  have K0 := hide (heap_alloc_new w (.cells y.cells.toArray 79))
  have B0 := hide (below1 w (.cells y.cells.toArray 79))
  have H0 : Hid (∀ W, _) := fun W => zsSize_any y.ha y.hs.length y.hc W
  have l0 : Hid (y.hs.length ≤ 140737488355328) := hy.hs.ln
  have H1 : Hid (∀ W, Below w.heap.size w W → _) := fun W hb => szInses_any y.ca y.cc y.cd W (hy.cd.below hb InO.below)
  have H2 : Hid (∀ W, _) := fun W => jsSize_any y.ja y.js.length y.jc W
  have l2 : Hid (y.js.length ≤ 140737488355328) := hy.js.ln
  clear hy
  obtain ⟨hs, ha, hc, cd, ca, cc, slot, js, ja, jc, to⟩ := y
  simp only [NdL.cells] at *
  have c0 := (cellA K0.out 0).trans rfl
  have c1 := (cellA K0.out 1).trans rfl
  have c2 := (cellA K0.out 2).trans rfl
  have c3 := (cellA K0.out 3).trans rfl
  have c4 := (cellA K0.out 4).trans rfl
  go_enter Tryz.func42, Tryz.ntmps42
  go_wp2_with fail
  refine (H0.out _).mono ?_
  rintro e w1 ⟨rfl, rfl⟩
  obtain ⟨N1, hN1⟩ : ∃ x, x = 1 + hs.length := ⟨_, rfl⟩
  have e1 : IntKind.i64.wrap (1 + (hs.length : Int)) = (N1 : Int) := by rw [IntKind.wrap_i64]; have := l0.out; omega
  have HN1 := hide hN1
  clear hN1
  clear H0
  by_cases q1 : N1 ≤ 1048576
  rotate_left
  · have dq : ((N1 : Int) ≤ 1048576) = False := by simp; omega
    clear H1 H2
    go_wp2
    go_ret
    exact ⟨N1, rfl, by have := l0.out; have := HN1.out; omega, fun h => absurd h q1, B0.out⟩
  have dq1 : ((N1 : Int) ≤ 1048576) = True := by simp; omega
  go_wp2_with fail
  refine (H1.out _ B0.out).mono ?_
  rintro e w2 ⟨m1, rfl, hm1, hs1, hb⟩
  have S1 := hide hs1
  have B2 := hide (bstep B0.out hb)
  have K2 := hide (heap_below hb K0.out)
  obtain ⟨N2, hN2⟩ : ∃ x, x = N1 + m1 := ⟨_, rfl⟩
  have Hm1 := hide hm1
  clear hm1
  have e2 : IntKind.i64.wrap ((N1 : Int) + (m1 : Int)) = (N2 : Int) := by rw [IntKind.wrap_i64]; have := l0.out; have := HN1.out; have := Hm1.out; omega
  have HN2 := hide hN2
  clear hN2
  clear H1 hb hs1 c0 c1 c2 c3 c4
  have c0 := (cellA K2.out 0).trans rfl
  have c1 := (cellA K2.out 1).trans rfl
  have c2 := (cellA K2.out 2).trans rfl
  have c3 := (cellA K2.out 3).trans rfl
  have c4 := (cellA K2.out 4).trans rfl
  by_cases q2 : N2 ≤ 1048576
  rotate_left
  · have dq : ((N2 : Int) ≤ 1048576) = False := by simp; omega
    clear H2
    go_wp2
    go_ret
    exact ⟨N2, rfl, by have := l0.out; have := HN1.out; have := Hm1.out; have := HN2.out; omega, fun h => absurd h q2, B2.out⟩
  have dq2 : ((N2 : Int) ≤ 1048576) = True := by simp; omega
  go_wp2_with fail
  refine (H2.out _).mono ?_
  rintro e w3 ⟨rfl, rfl⟩
  obtain ⟨N3, hN3⟩ : ∃ x, x = N2 + js.length := ⟨_, rfl⟩
  have e3 : IntKind.i64.wrap ((N2 : Int) + (js.length : Int)) = (N3 : Int) := by rw [IntKind.wrap_i64]; have := l0.out; have := HN1.out; have := Hm1.out; have := HN2.out; have := l2.out; omega
  have HN3 := hide hN3
  clear hN3
  clear H2
  go_wp2
  go_ret
  exact ⟨N3, rfl, by have := l0.out; have := HN1.out; have := Hm1.out; have := HN2.out; have := l2.out; have := HN3.out; omega, fun h => ⟨by simp only; have := l0.out; have := HN1.out; have := Hm1.out; have := HN2.out; have := l2.out; have := HN3.out; omega, (S1.out (by have := l0.out; have := HN1.out; have := Hm1.out; have := HN2.out; have := l2.out; have := HN3.out; omega)).mono (by have := l0.out; have := HN1.out; have := Hm1.out; have := HN2.out; have := l2.out; have := HN3.out; omega) smIns.mono, by simp only; have := l0.out; have := HN1.out; have := Hm1.out; have := HN2.out; have := l2.out; have := HN3.out; omega⟩, B2.out⟩
end Go.Proofs.YtlipcmonlhdgfaaGreat
