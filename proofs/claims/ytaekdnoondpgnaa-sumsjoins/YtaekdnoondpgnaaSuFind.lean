/- sums.Find. -/
import Derived.Test.YtaekdnoondpgnaaSuLook
namespace Go.Proofs.Ytaekdnoondpgnaa
open Go.RowKit Go.MapKept
open Go.ChangeMaps (setBlock)

def findN (s : ByteArray) : Int := if s = S1 then 1 else if s = S2 then 2 else if s = S3 then 3 else if s = S4 then 4 else 0
theorem nameB_inj {n m : Int} (h0 : 1 ≤ n) (h1 : n ≤ 4) (k0 : 1 ≤ m) (k1 : m ≤ 4) (h : nameB n = nameB m) : n = m := by
  rcases (by omega : n = 1 ∨ n = 2 ∨ n = 3 ∨ n = 4) with rfl | rfl | rfl | rfl <;> rcases (by omega : m = 1 ∨ m = 2 ∨ m = 3 ∨ m = 4) with rfl | rfl | rfl | rfl <;> first | rfl | (exfalso; revert h; decide)
theorem findN_of {n : Int} (h0 : 1 ≤ n) (h1 : n ≤ 4) : findN (nameB n) = n := by
  rcases (by omega : n = 1 ∨ n = 2 ∨ n = 3 ∨ n = 4) with rfl | rfl | rfl | rfl <;> decide
theorem findN_none {s : ByteArray} (h : ∀ n : Int, 1 ≤ n → n ≤ 4 → nameB n ≠ s) : findN s = 0 := by
  unfold findN
  rw [if_neg (fun e => h 1 (by decide) (by decide) e.symm), if_neg (fun e => h 2 (by decide) (by decide) e.symm), if_neg (fun e => h 3 (by decide) (by decide) e.symm), if_neg (fun e => h 4 (by decide) (by decide) e.symm)]
/- The loop under way. -/
structure Rng (w W : World) (B r b1 b2 : Nat) (s : ByteArray) (seen : Array Nat) : Prop where
  below : Below w.heap.size w W
  it : W.heap[r]? = some (.mapIter (some B) 4 seen 4)
  map : W.heap[B]? = some (.map (rowsE b1 b2) 4)
  no : ∀ e ∈ (rowsE b1 b2).toList, seen.contains e.born = true → ∀ n : Int, 1 ≤ n → n ≤ 4 → e.key = .int .i64 n → nameB n ≠ s
def left4 (b1 b2 r : Nat) (W : World) : Nat := match W.heap[r]? with
  | some (.mapIter _ _ seen _) => (leftOf (rowsE b1 b2) seen).size
  | _ => 0
theorem rowsE_born (b1 b2 : Nat) : ∀ x ∈ (rowsE b1 b2).toList, x.born < 4 := by intro x hx; simp [rowsE] at hx; rcases hx with rfl | rfl | rfl | rfl <;> (show _ < 4; simp)
theorem rowsE_nodup (b1 b2 : Nat) : ((rowsE b1 b2).toList.map (·.born)).Nodup := by simp [rowsE]
theorem rowOf_shape {n : Int} (h0 : 1 ≤ n) (h1 : n ≤ 4) (b1 b2 : Nat) : ∃ wd fn caps, rowOf n b1 b2 = .agg #[.string (nameB n), .int .i64 wd, .func fn #[] caps] := by
  rcases (by omega : n = 1 ∨ n = 2 ∨ n = 3 ∨ n = 4) with rfl | rfl | rfl | rfl
  · exact ⟨_, _, _, rfl⟩
  · exact ⟨_, _, _, rfl⟩
  · exact ⟨_, _, _, rfl⟩
  · exact ⟨_, _, _, rfl⟩
theorem Rng.step {w W W' : World} {B r b1 b2 : Nat} {s : ByteArray} {seen : Array Nat} (h : Rng w W B r b1 b2 s seen) (hw : W' = W ∨ W' = W.drew) (hB : B ≠ r) (hr : w.heap.size ≤ r) (e : MapEntry) (he : e ∈ (rowsE b1 b2).toList) (n : Int) (hk : e.key = .int .i64 n) :
    (setBlock W' r (.mapIter (some B) 4 (seen.push e.born) 4)).heap[r]? = some (.mapIter (some B) 4 (seen.push e.born) 4) ∧ (setBlock W' r (.mapIter (some B) 4 (seen.push e.born) 4)).heap[B]? = some (.map (rowsE b1 b2) 4) ∧ Below w.heap.size w (setBlock W' r (.mapIter (some B) 4 (seen.push e.born) 4)) ∧
    (nameB n ≠ s → Rng w (setBlock W' r (.mapIter (some B) 4 (seen.push e.born) 4)) B r b1 b2 s (seen.push e.born)) := by
  have hi : W'.heap[r]? = some (.mapIter (some B) 4 seen 4) := by rcases hw with rfl | rfl <;> exact h.it
  have hm : W'.heap[B]? = some (.map (rowsE b1 b2) 4) := by rcases hw with rfl | rfl <;> exact h.map
  have hb : Below w.heap.size w W' := by rcases hw with rfl | rfl; exact h.below; exact h.below.drew
  obtain ⟨k1, k2⟩ := heap_set (o' := Obj.mapIter (some B) 4 (seen.push e.born) 4) hi
  have hb2 : Below w.heap.size w (setBlock W' r (.mapIter (some B) 4 (seen.push e.born) 4)) := ⟨hb.os, hb.tape, hb.output, by have := hb.size; simp [setBlock]; exact this, fun k hk => (k2 k (by omega)).trans (hb.block k hk)⟩
  refine ⟨k1, (k2 B hB).trans hm, hb2, fun hne => ⟨hb2, k1, (k2 B hB).trans hm, fun x hx hc m m0 m1 hkx => ?_⟩⟩
  simp only [Array.contains_push, Bool.or_eq_true, beq_iff_eq] at hc
  rcases hc with hc | hc
  · exact h.no x hx hc m m0 m1 hkx
  · obtain ⟨a, _, _, a1, _, a3⟩ := rowsE_mem hx
    obtain ⟨b, _, _, c1, _, c3⟩ := rowsE_mem he
    rw [hkx] at a1; rw [hk] at c1
    injection a1 with _ a1; injection c1 with _ c1
    have : m = n := by omega
    rw [this]; exact hne
theorem Rng.alloc {w W : World} {B r b1 b2 : Nat} {s : ByteArray} {seen : Array Nat} (h : Rng w W B r b1 b2 s seen) (o : Obj) : Rng w (W.alloc o) B r b1 b2 s seen :=
  ⟨h.below.alloc h.below.size _, (Below.heap_alloc _ _ _ (Array.getElem?_eq_some_iff.1 h.it).1).trans h.it, (Below.heap_alloc _ _ _ (Array.getElem?_eq_some_iff.1 h.map).1).trans h.map, h.no⟩
theorem Rng.left {w W : World} {B r b1 b2 : Nat} {s : ByteArray} {seen : Array Nat} (h : Rng w W B r b1 b2 s seen) : left4 b1 b2 r W = (leftOf (rowsE b1 b2) seen).size := by simp [left4, h.it]
theorem str_ne {a b : ByteArray} (h : a ≠ b) : (a.toList == b.toList) = false := by
  rw [beq_eq_false_iff_ne, ByteArray.toList_eq, ByteArray.toList_eq]
  intro e
  apply h
  obtain ⟨⟨x⟩⟩ := a
  obtain ⟨⟨y⟩⟩ := b
  simpa using e
set_option maxHeartbeats 1000000 in
theorem find_any (s : ByteArray) (w : World) : Calls Try.prog 18 #[.string s] w fun e w' => e = .returned (.int .i64 (findN s)) ∧ Below w.heap.size w w' := by
  go_enter Try.func18, Try.ntmps18
  go_wp2_with fail
  refine (rows_any _).mono ?_
  rintro e w1 ⟨rfl, b1, b2, hT, hb⟩
  have hrg := run_range_map (P := Try.prog) w1 53 3 51 w.heap.size (rowsE b1 b2) 4 Try.underlying53 hT.map
  have hlt : w.heap.size < w1.heap.size := lt_of_block hT.map
  have HR : Hid (Rng w (w1.alloc (.mapIter (some w.heap.size) 4 #[] 4)) w.heap.size w1.heap.size b1 b2 s #[]) :=
    ⟨hb.alloc hb.size _, heap_alloc_new w1 _, (Below.heap_alloc _ _ _ hlt).trans hT.map, fun e _ h => by simp at h⟩
  have HB := hide hb
  clear hT hb
  go_wp2
  generalize w1.alloc (.mapIter (some w.heap.size) 4 #[] 4) = W0 at *
  generalize w1.heap.size = r at *
  go_loopw [7] (fun _ wr => ∃ seen, Rng w wr w.heap.size r b1 b2 s seen) (fun _ wr => left4 b1 b2 r wr)
  case atStart => exact ⟨_, HR.out⟩
  case round =>
    obtain ⟨seen, hg⟩ := hrel
    have HG := hide hg
    clear HR hrg
    have hnx := fun ty => run_next_at (P := Try.prog) wr ty r w.heap.size 4 4 seen (rowsE b1 b2) 4 hg.it hg.map (rowsE_born b1 b2) (Nat.le_refl _)
    clear hg
    have hr0 : w.heap.size ≠ r := by omega
    rcases hnx 0 with ⟨h0, hrun⟩ | ⟨e, he, wn, hw, hrun⟩
    · have HE : Hid (findN s = 0) := findN_none (fun n n0 n1 => by
        obtain ⟨e, he, hk⟩ := rowsE_has (b1 := b1) (b2 := b2) n0 n1
        exact HG.out.no e he (all_seen _ _ h0 e he) n n0 n1 hk)
      clear hnx h0
      go_wp2
      go_ret
      exact ⟨by rw [HE.out]; rfl, HG.out.below⟩
    · obtain ⟨he1, _⟩ := mem_left he
      obtain ⟨n, n0, n1, hk, hv, _⟩ := rowsE_mem he1
      obtain ⟨wd, fn, caps, hsh⟩ := rowOf_shape n0 n1 b1 b2
      obtain ⟨s1, s2, s3, s4⟩ := HG.out.step hw hr0 (by omega) e he1 n hk
      have hen := run_entry_at (P := Try.prog) _ r w.heap.size 4 seen (rowsE b1 b2) 4 e s1 s2 he1 (rowsE_nodup b1 b2)
      rw [hk, hv, hsh] at hrun hen
      have HSH := hide (left_shrinks _ _ _ he)
      have HL := hide HG.out.left
      have S3 := hide s3; have S4 := hide s4
      have HF : Hid (findN (nameB n) = n) := findN_of n0 n1
      clear hnx he he1 hk hv hsh s1 s2 s3 s4 hw
      by_cases hs : nameB n = s
      · have hsb : ((nameB n).toList == s.toList) = true := by rw [hs]; exact beq_self_eq_true _
        have HS := hide hs
        clear hs
        generalize setBlock wn r (.mapIter (some w.heap.size) 4 (seen.push e.born) 4) = W3 at *
        generalize hnm : nameB n = nm at *
        have HNM := hide hnm
        clear hnm
        go_wp2
        go_ret
        exact ⟨by rw [← HS.out, HF.out]; rfl, S3.out.alloc S3.out.size _⟩
      · have hsb : ((nameB n).toList == s.toList) = false := str_ne hs
        have HS := hide hs
        clear hs
        have HR2 := hide (S4.out HS.out)
        clear S4 S3
        generalize setBlock wn r (.mapIter (some w.heap.size) 4 (seen.push e.born) 4) = W3 at *
        generalize hnm : nameB n = nm at *
        have HNM := hide hnm
        clear hnm
        go_wp2
        go_roundw
        case rel => exact ⟨_, HR2.out.alloc _⟩
        case measure => rw [(HR2.out.alloc _).left, HL.out]; exact HSH.out
end Go.Proofs.Ytaekdnoondpgnaa
