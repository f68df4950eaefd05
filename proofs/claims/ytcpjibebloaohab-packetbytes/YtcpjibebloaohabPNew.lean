/- slices.Clone, New, Rest; Take where too few bits are left. -/
import Derived.Test.YtcpjibebloaohabPSmall
import Derived.Maps.AppendAt
namespace Go.Proofs.Ytcpjibebloaohab
open Go.RowKit

theorem Try.info8 : (Try.prog.info? 5).map (fun i => (i.zero, i.size, i.bytes)) = some (some (.int .u8 0), 1, 1) := by kernel_rfl
theorem add_at (p off j : Nat) : (⟨p, off, none⟩ : Addr).add j = ⟨p, off + j, none⟩ := by
  unfold Addr.add; split
  · rename_i h; simp_all
  · rfl
def u8s (xs : List Nat) : List Value := xs.map (fun n => Value.int .u8 (n : Nat))
theorem u8s_length (xs : List Nat) : (u8s xs).length = xs.length := by simp [u8s]
theorem clone_some (p off cap : Nat) (xs : List Nat) (w : World) (hl : xs.length ≤ 100000) (h : ∀ i (h : i < xs.length), w.cell? ⟨p, off + i, none⟩ = some (.int .u8 (xs[i] : Nat))) :
    Calls Try.prog 13 #[.slice (some ⟨p, off, none⟩) xs.length cap] w fun e w' => ∃ g c, e = .returned (.slice (some ⟨g, 0, none⟩) xs.length c) ∧ xs.length ≤ c ∧ w.heap.size ≤ g ∧ g < w'.heap.size ∧ (∀ i (h : i < xs.length), w'.cell? ⟨g, 0 + i, none⟩ = some (.int .u8 (xs[i] : Nat))) ∧ Below w.heap.size w w' := by
  obtain ⟨i0, hi0, hz0, hz1, hz2⟩ := info_parts Try.info8
  have HC : Hid (∀ j u, (u8s xs)[j]? = some u → (w.alloc (.cells #[] 5)).cell? ((⟨p, off, none⟩ : Addr).add j) = some u) := fun j u hu => by
    obtain ⟨hj, rfl⟩ := List.getElem?_eq_some_iff.1 hu
    have hj' : j < xs.length := by simpa [u8s] using hj
    have hlt := World.block_lt_of_cell? w _ (h j hj')
    have : (u8s xs)[j] = Value.int .u8 (xs[j] : Nat) := by simp [u8s]
    rw [this]
    have h2 := (World.cell?_alloc_past (.cells #[] 5) p (off + j) hlt).trans (h j hj')
    rw [add_at]; exact h2
  have HO : Hid (∀ u ∈ u8s xs, u.oneCell' = true) := fun u hu => by
    obtain ⟨n, _, rfl⟩ := List.mem_map.1 hu
    rfl
  have HX := hide h
  clear h
  have hnil : ∀ W, (binOp .eql 22 (.slice (some ⟨p, off, none⟩) xs.length cap) (.slice none 0 0)).run Try.prog W = .ok (.bool false) W := fun W => Lib.run_eql_slice_nil W 22 5 _ _ _ _ _ Try.underlying22
  go_enter Try.func13, Try.ntmps13
  go_wp2_with (at_builtin; refine wpList_append_own_at _ rfl _ _ 22 rfl w.heap.size 5 i0 (.int .u8 0) 1 1 Try.underlying22 hi0 hz0 hz1 hz2 rfl (by decide) _ 0 [] rfl (World.ownsRow_made w #[] 0 (Nat.le_refl _) (by decide) rfl) ⟨p, off, none⟩ xs.length cap (u8s xs) rfl (by rw [u8s_length, Nat.mul_one]) HC.out HO.out (by unfold maxLen; omega) (by omega) (by simp) ?_; intro v' w1 hown hg hnl hblk)
  simp only [Nat.zero_add, List.nil_append] at hown
  have hv : v' ≠ .slice none 0 0 := fun e => by have := (hnl.1 e).1; cases this
  rcases hown.2 with ⟨e, _⟩ | ⟨g, c, cur, rfl, hg0, hcur, hrest⟩
  · exact absurd e hv
  have HW := hide hown
  have hnc : xs.length ≤ c := hrest.1
  have HB : Hid (Below w.heap.size w w1) := ((Below.refl _ w).alloc (Nat.le_refl _) (.cells #[] 5)).grown hg (by simp) (fun k e => by cases e; exact Nat.le_refl _)
  have hgl : g < w1.heap.size := (Array.getElem?_eq_some_iff.1 hcur).1
  have HW2 : Hid (∀ i (h : i < xs.length), w1.cell? ⟨g, 0 + i, none⟩ = some (.int .u8 (xs[i] : Nat))) := fun i hi => by
    have := HW.out.cells (g := g) rfl i (.int .u8 (xs[i] : Nat)) (by simp [u8s, hi])
    rw [add_at] at this; exact this
  clear hown hnl hblk hv hcur hrest hg HW
  go_wp2
  go_ret
  exact ⟨g, c, rfl, hnc, hg0, hgl, HW2.out, HB.out⟩
theorem clone_nil (w : World) : Calls Try.prog 13 #[.slice none 0 0] w fun e w' => e = .returned (.slice none 0 0) ∧ w' = w := by
  have hnil : ∀ W, (binOp .eql 22 (.slice none 0 0) (.slice none 0 0)).run Try.prog W = .ok (.bool true) W := fun W => Lib.run_eql_slice_nil W 22 5 _ _ _ _ _ Try.underlying22
  go_enter Try.func13, Try.ntmps13
  go_wp2
  go_ret
  exact ⟨rfl, rfl⟩

theorem new_limit (a : Option Addr) (n cap : Nat) (w : World) (h : 65536 < n) : Calls Try.prog 5 #[.slice a n cap] w fun e w' => e = .returned (.tuple #[.pointer none, .int .i64 3]) ∧ w' = w := by
  have hI : (n : Int) > 65536 := by omega
  go_enter Try.func5, Try.ntmps5
  go_wp2
  go_ret2
  exact ⟨rfl, rfl⟩
/- New: a cursor of its own bytes. -/
theorem cur_new (W : World) (a : Option Addr) (c : Nat) (xs : List Nat) (h : RdA W a xs) : Cur (W.alloc (.cells #[.int .i64 0, .slice a xs.length c, .bool true] 44)) W.heap.size a c xs 0 := by
  have hh : (W.alloc (.cells #[.int .i64 0, .slice a xs.length c, .bool true] 44)).heap[W.heap.size]? = some (.cells #[.int .i64 0, .slice a xs.length c, .bool true] 44 (0, 0)) := heap_alloc_new W _
  refine ⟨by simp, ?_, ?_, ?_, ?_, ?_, ?_⟩
  · unfold World.cell?; simp only [hh]; rfl
  · unfold World.frozen?; simp only [hh]; rfl
  · unfold World.cell?; simp only [hh]; rfl
  · unfold World.cell?; simp only [hh]; rfl
  · exact h.keep (by simp) (fun q e => Below.heap_alloc _ _ _ (h.lt q e))
  · intro q e; have := h.lt q e; omega
theorem new_some (p off cap : Nat) (xs : List Nat) (w : World) (hl : xs.length ≤ 65536) (h : ∀ i (h : i < xs.length), w.cell? ⟨p, off + i, none⟩ = some (.int .u8 (xs[i] : Nat))) :
    Calls Try.prog 5 #[.slice (some ⟨p, off, none⟩) xs.length cap] w fun e w' => ∃ g q c, e = .returned (.tuple #[.pointer (some ⟨g, 0, none⟩), .int .i64 0]) ∧ xs.length ≤ c ∧ w.heap.size ≤ g ∧ w.heap.size ≤ q ∧ Cur w' g (some ⟨q, 0, none⟩) c xs 0 ∧ Below w.heap.size w w' := by
  have HC := hide (clone_some p off cap xs w (by omega) h)
  have hI : decide ((xs.length : Int) > 65536) = false := by simp; omega
  have hI2 : ¬ (xs.length : Int) > 65536 := by omega
  clear h
  go_enter Try.func5, Try.ntmps5
  go_wp2_with fail
  refine HC.out.mono ?_
  rintro e w1 ⟨q, c, rfl, hcc, hq0, hq1, hr, hb⟩
  have HR := hide hr; have HB := hide hb
  clear hr hb
  go_wp2
  go_ret2
  exact ⟨w1.heap.size, q, c, rfl, hcc, HB.out.size, hq0, cur_new w1 _ c xs (.inr ⟨q, 0, rfl, hq1, HR.out⟩), HB.out.alloc HB.out.size _⟩
theorem new_nil (w : World) : Calls Try.prog 5 #[.slice none 0 0] w fun e w' => ∃ g, e = .returned (.tuple #[.pointer (some ⟨g, 0, none⟩), .int .i64 0]) ∧ w.heap.size ≤ g ∧ Cur w' g none 0 [] 0 ∧ Below w.heap.size w w' := by
  have HC := hide (clone_nil w)
  go_enter Try.func5, Try.ntmps5
  go_wp2_with fail
  refine HC.out.mono ?_
  rintro e w1 ⟨rfl, hw⟩
  subst hw
  go_wp2
  go_ret2
  exact ⟨w1.heap.size, rfl, Nat.le_refl _, cur_new w1 none 0 [] (.inl ⟨rfl, rfl⟩), (Below.refl _ _).alloc (Nat.le_refl _) _⟩

theorem take_short {w : World} {g : Nat} {a : Option Addr} {cap : Nat} {xs : List Nat} {t n : Nat} (h : Cur w g a cap xs t) (hxl : xs.length ≤ 100000) (ht : t ≤ 8 * xs.length) (n1 : 1 ≤ n) (n2 : n ≤ 128) (htn : 8 * xs.length < t + n) :
    Calls Try.prog 7 #[.pointer (some ⟨g, 0, none⟩), .int .i64 n] w fun e w' =>
      e = .returned (.tuple #[.agg #[.int .i64 0, .int .u64 0, .int .u64 0], .int .i64 9]) ∧ Below w.heap.size w w' := by
  have K0 := hide (h.keep (((Below.refl _ w).alloc (Nat.le_refl _) (.cells #[.int .i64 0, .int .u64 0, .int .u64 0] 32))))
  have hlf : ((8 * xs.length - t : Nat) : Int) < (n : Int) := by omega
  clear h
  go_enter Try.func7, Try.ntmps7
  go_wp2_with fail
  refine (isThere_any K0.out).mono ?_
  rintro e w1 ⟨rfl, hb1⟩
  have K1 := hide (K0.out.keep hb1)
  have B1 := hide hb1
  clear hb1
  go_wp2_with fail
  refine (left_any K1.out hxl ht).mono ?_
  rintro e w2 ⟨rfl, hb2⟩
  have hb := B1.out.trans (hb2.mono B1.out.size)
  obtain ⟨hc, hf⟩ := bcell hb
  have hz : w.heap.size < w2.heap.size := by have h1 := hb.size; simp at h1; omega
  generalize ((8 * xs.length - t : Nat) : Int) = lf at *
  go_wp2
  refine bodyPost_ret (v := .tuple #[.agg #[.int .i64 0, .int .u64 0, .int .u64 0], .int .i64 9]) (by simp [results, Try.results7, go_sem, hc]) rfl ⟨rfl, ?_⟩
  exact ((((((Below.refl _ _).alloc (Nat.le_refl _) _).trans (hb.mono (by simp))).setCell (Nat.le_refl _) _).setCell (Nat.le_refl _) _).setCell (Nat.le_refl _) _)
end Go.Proofs.Ytcpjibebloaohab
