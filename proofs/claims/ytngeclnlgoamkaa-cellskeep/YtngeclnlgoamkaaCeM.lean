/- The law's examples: the chapter's arrays. -/
import Derived.Test.YtngeclnlgoamkaaCeL
import Derived.Test.YtngeclnlgoamkaaCeH
namespace Go.Proofs.Ytngeclnlgoamkaa
open Go.RowKit

def deC (kind : Int) (name : ByteArray) (n rate burst : Int) : List Value := [.int .u8 kind, .string name, .slice none 0 0, .int .i64 0, .int .i64 n, .int .i64 rate, .int .i64 burst, .slice none 0 0, .slice none 0 0, .slice none 0 0, .string ⟨#[]⟩, .slice none 0 0, .slice none 0 0, .slice none 0 0, .int .i64 0]
theorem deC_one (kind : Int) (name : ByteArray) (n rate burst : Int) : ∀ u ∈ deC kind name n rate burst, u.oneCell' = true := fun u hu => by
  simp only [deC, List.mem_cons, List.not_mem_nil, or_false] at hu
  rcases hu with rfl | rfl | rfl | rfl | rfl | rfl | rfl | rfl | rfl | rfl | rfl | rfl | rfl | rfl | rfl <;> rfl
def countD (name : ByteArray) (n : Nat) : De := ⟨deC 4 name n 0 0, counterA name n 0 0⟩
def meterD (name : ByteArray) (n : Nat) (rate burst : Int) : De := ⟨deC 5 name n rate burst, meterA name n rate burst⟩
theorem i64z : i64R 0 := ⟨by decide, by decide⟩
theorem u64z : u64R 0 := ⟨by decide, by decide⟩
theorem i64s : i64R 64 := ⟨by decide, by decide⟩
theorem countG (name : ByteArray) (n : Nat) (h : n ≤ 4096) : ArG (counterA name n 0 0) := by
  refine ⟨?_, ?_, fun b hb => ?_, fun m hm => ?_, i64s, i64z, i64z, ⟨by show (0 : Int) ≤ 4; decide, by show (4 : Int) < 256; decide⟩⟩
  · simp [counterA]; omega
  · simp [counterA]
  · have := (List.mem_replicate.1 hb).2
    subst this
    exact ⟨i64s, ⟨by decide, by decide⟩, ⟨by decide, by decide⟩⟩
  · simp [counterA] at hm
theorem u64_wrap (n : Int) : u64R (IntKind.u64.wrap n) := by unfold u64R; rw [IntKind.wrap_u64]; omega
theorem meterG (name : ByteArray) (n : Nat) (rate burst : Int) (h : n ≤ 4096) (hr : i64R rate) (hb : i64R burst) : ArG (meterA name n rate burst) := by
  refine ⟨?_, ?_, fun b hb => ?_, fun m hm => ?_, i64s, hr, hb, ⟨by show (0 : Int) ≤ 5; decide, by show (5 : Int) < 256; decide⟩⟩
  · simp [meterA]; omega
  · simp [meterA]; omega
  · have := (List.mem_replicate.1 hb).2
    subst this
    exact ⟨i64s, u64z, u64_wrap _⟩
  · have := (List.mem_replicate.1 hm).2
    subst this
    exact i64z
theorem countD_ok (name : ByteArray) (n : Nat) (h1 : 1 ≤ n) (h2 : n ≤ 4096) : DeOk (countD name n) :=
  ⟨rfl, deC_one _ _ _ _ _, fun W => (fresh_counter name _ 0 n 0 0 _ _ _ _ _ _ _ _ W h1 h2).mono (fun _ _ ⟨ca, h1, h2, h3⟩ => ⟨ca, none, h1, h2, h3⟩), countG name n h2⟩
theorem meterD_ok (name : ByteArray) (n : Nat) (rate burst : Int) (h1 : 1 ≤ n) (h2 : n ≤ 4096) (hr : i64R rate) (hb : i64R burst) : DeOk (meterD name n rate burst) :=
  ⟨rfl, deC_one _ _ _ _ _, fun W => fresh_meter name _ 0 n rate burst _ _ _ _ _ _ _ _ W h1 h2, meterG name n rate burst h2 hr hb⟩
theorem rdD_one {W : World} {p : Nat} {d : De} {t : TypeId} (h : W.heap[p]? = some (.cells d.cs.toArray t (0, 0))) : RdD W p 0 [d] := by
  refine ⟨lt_heap h, fun i hi j u hu => ?_⟩
  obtain rfl : i = 0 := by simp at hi; omega
  rw [blk_cell h, Nat.zero_mul, Nat.zero_add]
  exact hu
theorem rdD_two {W : World} {p : Nat} {d e : De} {t : TypeId} (h : W.heap[p]? = some (.cells (d.cs ++ e.cs).toArray t (0, 0))) (hd : d.cs.length = 15) : RdD W p 0 [d, e] := by
  refine ⟨lt_heap h, fun i hi j u hu => ?_⟩
  rcases (by simp at hi; omega : i = 0 ∨ i = 1) with rfl | rfl
  · have hj : j < d.cs.length := (List.getElem?_eq_some_iff.1 hu).1
    rw [blk_cell h, Nat.zero_mul, Nat.zero_add, List.getElem?_append_left hj]
    exact hu
  · rw [blk_cell h, List.getElem?_append_right (by omega)]
    have : 0 + 1 * 15 + j - d.cs.length = j := by omega
    rw [this]
    exact hu
/- One array of a list of one's own, as it lies. -/
theorem As.get {w W : World} {v : Value} {xs : List ArL} (h : As w W v xs) (hn : 0 < xs.length) : ∃ g cap, v = .slice (some ⟨g, 0, none⟩) xs.length cap ∧ g < W.heap.size ∧ ∀ i (hi : i < xs.length) j u, (xs[i].cells)[j]? = some u → W.cell? ⟨g, i * 7 + j, none⟩ = some u := by
  rcases own_form h.own with ⟨_, hz⟩ | ⟨g, c, hv, _, hlt, _⟩
  · omega
  · refine ⟨g, c, hv, hlt, fun i hi j u hu => ?_⟩
    have := own_cell arl_len h.own hv i hi j u hu
    rw [Nat.zero_add] at this
    exact this
theorem blk_num {W : World} {g : Nat} {t : TypeId} {l : List Nb} (h : W.heap[g]? = some (.cells (flat Nb.cells l).toArray t (0, 0))) (i : Nat) (hi : i < l.length) : W.cell? ⟨g, i * 3, none⟩ = some (.int .i64 l[i].w) ∧ W.cell? ⟨g, i * 3 + 1, none⟩ = some (.int .u64 l[i].hi) ∧ W.cell? ⟨g, i * 3 + 2, none⟩ = some (.int .u64 l[i].lo) := by
  have key : ∀ j, j < 3 → W.cell? ⟨g, i * 3 + j, none⟩ = (l[i].cells)[j]? := fun j hj => by rw [blk_cell h, flat_get nb_len l i j hi hj]
  exact ⟨key 0 (by decide), key 1 (by decide), key 2 (by decide)⟩
theorem lv1 : newA [countD ⟨#[99]⟩ 2, meterD ⟨#[109]⟩ 1 3 5] = [counterA ⟨#[99]⟩ 2 0 0, meterA ⟨#[109]⟩ 1 3 5] := by
  have h1 : mayA (counterA ⟨#[99]⟩ 2 0 0) = true := by kernel_rfl
  have h2 : mayA (meterA ⟨#[109]⟩ 1 3 5) = true := by kernel_rfl
  simp [newA, countD, meterD, h1, h2]
theorem lv2 : countC (counterA ⟨#[99]⟩ 2 0 0) ⟨8, 0, 1⟩ = 0 := by kernel_rfl
theorem lv3 : countC (counterA ⟨#[99]⟩ 2 0 0) ⟨8, 0, 2⟩ = 11 := by kernel_rfl
theorem lv4 : ((counterA ⟨#[99]⟩ 2 0 0).put 1 (inc ((counterA ⟨#[99]⟩ 2 0 0).cs.getD 1 nb0))).cs = [⟨64, 0, 0⟩, ⟨64, 0, 1⟩] := by kernel_rfl
end Go.Proofs.Ytngeclnlgoamkaa
