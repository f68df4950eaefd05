/- Pieces of the proof: CeF, NRefs. -/
import Derived.Test.YtbemfjdloeipmaaGreatDoorM10
import Derived.Test.YtbemfjdloeipmaaGreatDoorM3
/- package cells: Read, Write, Count. -/
namespace Go.Proofs.YtbemfjdloeipmaaGreatDoor
open Go.RowKit

def Ar.put (a : Ar) (k : Nat) (b : Nb) : Ar := { a with cs := a.cs.set k b }
/- An array whose lists are new. -/
structure ArN (W : World) (B : Nat) (a : Ar) (ca la : Option Addr) : Prop where
  cs : OwnR W B ca 29 (flat Nb.cells a.cs)
  ls : OwnR W B la 3 (flat intC a.ls)
def arV (a : Ar) (ca la : Option Addr) : Value := .agg #[.string a.name, .int .u8 a.kind, .int .i64 a.w, .int .i64 a.rate, .int .i64 a.burst, .slice ca a.cs.length a.cs.length, .slice la a.ls.length a.ls.length]
theorem arV_put (a : Ar) (k : Nat) (b : Nb) (ca la : Option Addr) : arV (a.put k b) ca la = .agg #[.string a.name, .int .u8 a.kind, .int .i64 a.w, .int .i64 a.rate, .int .i64 a.burst, .slice ca a.cs.length a.cs.length, .slice la a.ls.length a.ls.length] := by
  simp [arV, Ar.put]
def zeroV : Value := .agg #[.string ⟨#[]⟩, .int .u8 0, .int .i64 0, .int .i64 0, .int .i64 0, .slice none 0 0, .slice none 0 0]
theorem ArN.below {W W' : World} {B : Nat} {a : Ar} {ca la : Option Addr} (h : ArN W B a ca la) (hb : Below W.heap.size W W') : ArN W' B a ca la := ⟨h.cs.below hb, h.ls.below hb⟩
theorem ArN.mono {W : World} {B B' : Nat} {a : Ar} {ca la : Option Addr} (h : ArN W B a ca la) (hb : B' ≤ B) : ArN W B' a ca la := ⟨h.cs.mono hb, h.ls.mono hb⟩
theorem may_len {a : Ar} (h : mayA a = true) : 1 ≤ a.cs.length ∧ a.cs.length ≤ 4096 ∧ a.ls.length ≤ 4096 := by
  simp only [mayA, Bool.and_eq_true] at h
  obtain ⟨h1, h2, _⟩ := h
  simp only [fromB, Bool.and_eq_true, decide_eq_true_eq] at h2
  refine ⟨by omega, by omega, ?_⟩
  unfold frameB at h1
  have hp : plainB a = true → a.ls.length ≤ 4096 := fun hp => by
    simp only [plainB, Bool.and_eq_true, beq_iff_eq] at hp
    omega
  split at h1
  · exact hp (Bool.and_eq_true .. ▸ h1).2
  · split at h1
    · exact hp (Bool.and_eq_true .. ▸ h1).2
    · split at h1
      · simp only [Bool.and_eq_true, ticksB, beq_iff_eq] at h1
        omega
      · cases h1
theorem findA_yes {k : Int} {a : Ar} {i : Nb} (h : (findA k a i).2 = 0) : a.kind = k ∧ mayA a = true ∧ i.ok = true ∧ i.hi = 0 ∧ i.lo < a.cs.length ∧ (findA k a i).1 = i.lo := by
  unfold findA at h ⊢
  split at h
  · rename_i h1
    rw [if_pos h1]
    simp only [Bool.and_eq_true, beq_iff_eq] at h1
    split at h
    · rename_i h2
      rw [if_pos h2]
      exact ⟨h1.1, h1.2.1, h1.2.2, h2.1, h2.2, rfl⟩
    · simp at h
  · simp at h
set_option maxRecDepth 100000 in
set_option maxHeartbeats 4000000 in
theorem read_any (x : ArL) (i : Nb) (w : World) (hx : ArR w x) (hi : NbR i) (c : Int) (hc : (findA 3 x.a i).2 = c) (v : Nb) (hv : v = if c = 0 then x.a.cs.getD i.lo.toNat nb0 else nb0) :
    Calls Tryz.prog 8 #[x.val, i.val] w fun e w' => e = .returned (.tuple #[v.val, .int .i64 c]) ∧ Below w.heap.size w w' := by
  have HF : Hid (∀ W, Below w.heap.size w W → _) := fun W hb => cfind_any 3 x i W (hx.below hb) hi (by decide)
  have HX := hide hx
  by_cases h0 : c = 0
  · subst h0
    obtain ⟨-, -, -, -, h5, h6⟩ := findA_yes hc
    rw [hc, h6] at HF
    have hp := hi.lo.1
    obtain ⟨k, hk⟩ := Int.eq_ofNat_of_zero_le hp
    have hk2 : k < x.a.cs.length := by omega
    have hkI : ((k : Int) < (x.a.cs.length : Int)) := by omega
    rw [if_pos rfl, hk, Int.toNat_natCast, List.getD_eq_getElem?_getD, List.getElem?_eq_getElem hk2, Option.getD_some] at hv
    have HC : Hid (∀ W, Below w.heap.size w W → ∃ p off, x.ca = some ⟨p, off, none⟩ ∧ W.cell? ⟨p, off + k * 3, none⟩ = some (.int .i64 v.w) ∧ W.cell? ⟨p, off + k * 3 + 1, none⟩ = some (.int .u64 v.hi) ∧ W.cell? ⟨p, off + k * 3 + 2, none⟩ = some (.int .u64 v.lo)) := fun W hb => by
      obtain ⟨p, off, e, _, hcl⟩ := (hx.cs.below hb).some (by omega)
      have := hcl k hk2
      rw [← hv] at this
      exact ⟨p, off, e, this⟩
    obtain ⟨⟨name, kind, aw, rate, burst, cs, ls⟩, ca, cc, la, lc⟩ := x
    obtain ⟨iw, ih, il⟩ := i
    obtain ⟨vw, vh, vl⟩ := v
    simp only [ArL.val, Nb.val] at *
    subst hk
    clear hx hi hc h5 h6 hp hv hk2 HX
    generalize cs.length = n1 at *
    generalize ls.length = n2 at *
    go_enter Tryz.func8, Tryz.ntmps8
    go_wp2_with fail
    refine (HF.out _ ?_).mono ?_
    · exact bstep (below3 _ _ _ _) (below1 _ _)
    rintro e w1 ⟨rfl, hb⟩
    have BB := hide (bstep (bstep (below3 _ _ _ _) (below1 _ _)) hb)
    have k3 := heap_below hb (heap_past _ (heap_trd _ _ _ _ _))
    obtain ⟨r0, r1, r2, r3⟩ := at3 k3
    have k4 := heap_below hb (heap_alloc_new (((w.alloc _).alloc _).alloc _) (.cells #[.string name, .int .u8 kind, .int .i64 aw, .int .i64 rate, .int .i64 burst, .slice ca n1 cc, .slice la n2 lc] 93))
    simp only [World.size_alloc] at k4
    obtain ⟨p0, p1, p2, p3, p4, p5, p6⟩ := at7 k4
    obtain ⟨p, off, rfl, q0, q1, q2⟩ := HC.out _ BB.out
    clear k3 k4 hb
    go_wp2
    refine bodyPost_ret (v := .tuple #[.agg #[.int .i64 vw, .int .u64 vh, .int .u64 vl], .int .i64 0]) (by simp [results, Tryz.results8, go_sem, r0, r1, r2]) rfl ⟨rfl, ?_⟩
    exact ((BB.out.setCell (by simp; omega) _).setCell (by simp; omega) _).setCell (by simp; omega) _
  · rw [if_neg h0] at hv
    subst hv
    have h1 : (c == 0) = false := by simp [h0]
    have h2 : (c = 0) = False := by simp [h0]
    rw [hc] at HF
    generalize (findA 3 x.a i).1 = d at *
    obtain ⟨⟨name, kind, aw, rate, burst, cs, ls⟩, ca, cc, la, lc⟩ := x
    obtain ⟨iw, ih, il⟩ := i
    simp only [ArL.val, Nb.val, nb0] at *
    clear hx hi hc h0 HX
    generalize cs.length = n1 at *
    generalize ls.length = n2 at *
    go_enter Tryz.func8, Tryz.ntmps8
    go_wp2_with fail
    refine (HF.out _ ?_).mono ?_
    · exact bstep (below3 _ _ _ _) (below1 _ _)
    rintro e w1 ⟨rfl, hb⟩
    have BB := hide (bstep (bstep (below3 _ _ _ _) (below1 _ _)) hb)
    have k3 := heap_below hb (heap_past _ (heap_trd _ _ _ _ _))
    obtain ⟨r0, r1, r2, r3⟩ := at3 k3
    clear k3 hb
    go_wp2
    refine bodyPost_ret (v := .tuple #[.agg #[.int .i64 0, .int .u64 0, .int .u64 0], .int .i64 c]) (by simp [results, Tryz.results8, go_sem, r0, r1, r2]) rfl ⟨rfl, ?_⟩
    exact ((BB.out.setCell (by simp; omega) _).setCell (by simp; omega) _).setCell (by simp; omega) _
end Go.Proofs.YtbemfjdloeipmaaGreatDoor
/- The walks of the document's own Bits and Number. -/
namespace Go.Proofs.YtbemfjdloeipmaaGreatDoor
open Go.RowKit

theorem Tryz.info4 : (Tryz.prog.info? 4).map (fun i => (i.zero, i.size, i.bytes)) = some (some (.bool false), 1, 1) := by kernel_rfl

theorem bool_one (b : Bool) : ∀ u ∈ [Value.bool b], u.oneCell' = true := by intro u hu; simp at hu; subst hu; rfl
theorem own_belowG {B : Nat} {e : TypeId} {w0 wr w1 : World} {u : Value} {k : Nat} {L : List Value} {o : Obj} (hown : wr.ownsRow B e 1 u k L) (hgrow : (wr.alloc o).grownBy w1 u.ownBlock) (hnx : Below B w0 wr) (hB : B ≤ wr.heap.size) : Below B w0 w1 :=
  (hnx.alloc hB o).grown hgrow (by simp; omega) (fun k e => (hown.lt k e).1)
theorem bits_own {B : Nat} {w1 : World} {v : Value} {hi lo : Int} {k : Nat} {X : Bool} (h : w1.ownsRow B 4 1 v (k + 1) ((bitsTo hi lo k).map Value.bool ++ [.bool X])) (hX : X = bitB hi lo k) : w1.ownsRow B 4 1 v (k + 1) ((bitsTo hi lo (k + 1)).map Value.bool) := by
  rw [bitsTo_succ, List.map_append, ← hX]; exact h

set_option maxHeartbeats 1000000 in
theorem refBits_any (n hi lo : Int) (w : World) (a0 : 0 ≤ hi) (a1 : hi < 18446744073709551616) (b0 : 0 ≤ lo) (b1 : lo < 18446744073709551616) :
    Calls Tryz.prog 209 #[.agg #[.int .i64 n, .int .u64 hi, .int .u64 lo]] w fun e w' =>
      ∃ v, e = .returned v ∧ w'.ownsRow (w.heap.size + 1) 4 1 v (min n 128).toNat ((bitsTo hi lo (min n 128).toNat).map Value.bool) ∧ Below w.heap.size w w' := by
  obtain ⟨i0, hi0, hz0, hz1, hz2⟩ := info_parts Tryz.info4
  go_enter Tryz.func209, Tryz.ntmps209
  go_wp2
  go_loopw [3, 4] (fun v i wr => ∃ k : Nat, (k ≤ (min n 128).toNat) ∧ i = .int .i64 k ∧ wr.ownsRow (w.heap.size + 1) 4 1 v k ((bitsTo hi lo k).map Value.bool) ∧ Below (w.heap.size + 1) (w.alloc (.cells #[.int .i64 n, .int .u64 hi, .int .u64 lo] 29)) wr)
    (fun _ i _ => 128 - (intOf i).toNat)
  case atStart => exact ⟨0, Nat.zero_le _, rfl, World.ownsRow_nil _ _ _ _, Below.refl _ _⟩
  case round =>
    obtain ⟨k, hk, rfl, hown, hnx⟩ := hrel
    have c0 : wr.cell? ⟨w.heap.size, 0, none⟩ = some (.int .i64 n) := by rw [hnx.cell (by simp)]; simp [go_sem]
    have c1 : wr.cell? ⟨w.heap.size, 1, none⟩ = some (.int .u64 hi) := by rw [hnx.cell (by simp)]; simp [go_sem]
    have c2 : wr.cell? ⟨w.heap.size, 2, none⟩ = some (.int .u64 lo) := by rw [hnx.cell (by simp)]; simp [go_sem]
    have hsz := hnx.size
    by_cases hlt : (k : Int) < n
    · by_cases h128 : (k : Int) < 128
      · by_cases h64 : (k : Int) < 64
        · go_wp2_with (at_builtin; refine wpList_append_own _ rfl _ _ 314 rfl (w.heap.size + 1) 4 i0 (.bool false) 1 1 Tryz.underlying314 hi0 hz0 hz1 hz2 rfl (by decide) _ _ _ rfl (hown.alloc _) ⟨wr.heap.size, 0, none⟩ 1 1 [.bool (bits .and .u64 (lo / 2 ^ k) 1 == 1)] rfl rfl (cell_one_new _ _ _) (bool_one _) (by unfold maxLen; omega) (by omega) (by simp at hsz ⊢; omega) ?_)
          intro v' w1 hown' hgrow _
          have hr1 : Hid (w1.ownsRow (w.heap.size + 1) 4 1 v' (k + 1) ((bitsTo hi lo (k + 1)).map Value.bool)) := bits_own hown' (bit_lo hi lo k h64 b0 b1)
          have hr2 : Hid (Below (w.heap.size + 1) (w.alloc (.cells #[.int .i64 n, .int .u64 hi, .int .u64 lo] 29)) w1) := own_belowG hown hgrow hnx (by simp at hsz; omega)
          clear hown hown' hgrow hnx c0 c1 c2
          go_wp2
          go_roundw
          case rel => exact ⟨k + 1, by omega, by go_num, hr1.out, hr2.out⟩
          case measure => simp [intOf]; omega
        · go_wp2_with (at_builtin; refine wpList_append_own _ rfl _ _ 314 rfl (w.heap.size + 1) 4 i0 (.bool false) 1 1 Tryz.underlying314 hi0 hz0 hz1 hz2 rfl (by decide) _ _ _ rfl (hown.alloc _) ⟨wr.heap.size, 0, none⟩ 1 1 [.bool (bits .and .u64 (hi / 2 ^ (k - 64)) 1 == 1)] rfl rfl (cell_one_new _ _ _) (bool_one _) (by unfold maxLen; omega) (by omega) (by simp at hsz ⊢; omega) ?_)
          intro v' w1 hown' hgrow _
          have hr1 : Hid (w1.ownsRow (w.heap.size + 1) 4 1 v' (k + 1) ((bitsTo hi lo (k + 1)).map Value.bool)) := bits_own hown' (bit_hi hi lo k (by omega) a0 a1)
          have hr2 : Hid (Below (w.heap.size + 1) (w.alloc (.cells #[.int .i64 n, .int .u64 hi, .int .u64 lo] 29)) w1) := own_belowG hown hgrow hnx (by simp at hsz; omega)
          clear hown hown' hgrow hnx c0 c1 c2
          go_wp2
          go_roundw
          case rel => exact ⟨k + 1, by omega, by go_num, hr1.out, hr2.out⟩
          case measure => simp [intOf]; omega
      · have hkk : Hid (k = (min n 128).toNat) := by unfold Hid; omega
        have hf : Hid (Below w.heap.size w wr) := ((Below.refl _ _).alloc (Nat.le_refl _) _).trans (hnx.mono (by omega))
        clear hnx hk
        go_wp2
        go_ret
        exact ⟨_, rfl, by rw [← hkk.out]; exact hown, hf.out⟩
    · have hkk : Hid (k = (min n 128).toNat) := by unfold Hid; omega
      have hf : Hid (Below w.heap.size w wr) := ((Below.refl _ _).alloc (Nat.le_refl _) _).trans (hnx.mono (by omega))
      clear hnx hk
      have hlt' : decide ((k : Int) < n) = false := by simpa using hlt
      go_wp2
      go_ret
      exact ⟨_, rfl, by rw [← hkk.out]; exact hown, hf.out⟩
end Go.Proofs.YtbemfjdloeipmaaGreatDoor
