/- package match: the rows of kinds. -/
import Derived.Test.YthkhdmdllhbfeaaMtF
import Derived.Test.YthkhdmdllhbfeaaClass
import Derived.Test.YthkhdmdllhbfeaaLwM
namespace Go.Proofs.Ythkhdmdllhbfeaa
open Go.RowKit

def kindsL : List Value := [.nilFunc, .nilFunc, .func (.func 72) #[] #[], .func (.func 73) #[] #[], .func (.func 74) #[] #[], .func (.func 76) #[] #[], .func (.func 77) #[] #[], .func (.func 79) #[] #[], .func (.func 81) #[] #[], .func (.func 83) #[] #[]]
set_option maxRecDepth 100000 in
theorem sz_kinds : ∀ w : World, (sizeOf 94).run Try.prog w = .ok 10 w := fun w => by rfl
set_option maxRecDepth 100000 in
theorem ag_kinds : ∀ w : World, (isAgg 94).run Try.prog w = .ok true w := fun w => by rfl
theorem kinds_one : ∀ v ∈ kindsL, v.oneCell' = true := by
  intro v hv
  simp only [kindsL, List.mem_cons, List.not_mem_nil, or_false] at hv
  rcases hv with rfl | rfl | rfl | rfl | rfl | rfl | rfl | rfl | rfl | rfl <;> rfl
@[go_sem] theorem run_store_func (P : Program) (w : World) (a : Addr) (fn : Fn) (x y : Array Value) (m : Mode) : (store a (.func fn x y) m).run P w = match w.cell? a with | some _ => if w.frozen? a then .halt (.unsupported (.unsafePointer "a write to bytes that a string shares")) w else .ok () (w.setCell a (.func fn x y)) | none => match w.farStore P a (.func fn x y) (m == .atomic) with | .ok (w', _) => .ok () w' | .error h => .halt h w := run_store P w a _ m rfl
@[go_sem] theorem run_store_nilf (P : Program) (w : World) (a : Addr) (m : Mode) : (store a .nilFunc m).run P w = match w.cell? a with | some _ => if w.frozen? a then .halt (.unsupported (.unsafePointer "a write to bytes that a string shares")) w else .ok () (w.setCell a .nilFunc) | none => match w.farStore P a .nilFunc (m == .atomic) with | .ok (w', _) => .ok () w' | .error h => .halt h w := run_store P w a _ m rfl
set_option maxHeartbeats 4000000 in
theorem kinds_any : Pure 61 #[] (.agg kindsL.toArray) := fun w => by
  go_enter Try.func61, Try.ntmps61
  go_wp2
  exact bodyPost_ret (res_cell (cs := kindsL) Try.results61 rfl ag_kinds sz_kinds (heap_alloc_new w _)) rfl ⟨rfl, below1 _ _⟩
/- Matches that can be read. -/
def RdX (W : World) (a : Option Addr) (l : List Mx) : Prop :=
  l = [] ∨ ∃ p off, a = some ⟨p, off, none⟩ ∧ p < W.heap.size ∧ ∀ i (h : i < l.length), W.cell? ⟨p, off + i * 7, none⟩ = some (.int .i64 l[i].v.w) ∧ W.cell? ⟨p, off + i * 7 + 1, none⟩ = some (.int .u64 l[i].v.hi) ∧ W.cell? ⟨p, off + i * 7 + 2, none⟩ = some (.int .u64 l[i].v.lo) ∧ W.cell? ⟨p, off + i * 7 + 3, none⟩ = some (.int .i64 l[i].m.w) ∧ W.cell? ⟨p, off + i * 7 + 4, none⟩ = some (.int .u64 l[i].m.hi) ∧ W.cell? ⟨p, off + i * 7 + 5, none⟩ = some (.int .u64 l[i].m.lo) ∧ W.cell? ⟨p, off + i * 7 + 6, none⟩ = some (.int .i64 l[i].len)
theorem RdX.below {W W' : World} {a : Option Addr} {l : List Mx} (h : RdX W a l) (hb : Below W.heap.size W W') : RdX W' a l := by
  rcases h with h | ⟨p, off, rfl, hp, hc⟩
  · exact .inl h
  · refine .inr ⟨p, off, rfl, Nat.lt_of_lt_of_le hp hb.size, fun i hi => ?_⟩
    obtain ⟨h0, h1, h2, h3, h4, h5, h6⟩ := hc i hi
    exact ⟨(hb.cell (p := ⟨p, _, none⟩) hp).trans h0, (hb.cell (p := ⟨p, _, none⟩) hp).trans h1, (hb.cell (p := ⟨p, _, none⟩) hp).trans h2, (hb.cell (p := ⟨p, _, none⟩) hp).trans h3, (hb.cell (p := ⟨p, _, none⟩) hp).trans h4, (hb.cell (p := ⟨p, _, none⟩) hp).trans h5, (hb.cell (p := ⟨p, _, none⟩) hp).trans h6⟩
theorem RdX.some {W : World} {a : Option Addr} {l : List Mx} (h : RdX W a l) (hx : 0 < l.length) : ∃ p off, a = Option.some ⟨p, off, none⟩ ∧ p < W.heap.size ∧ ∀ i (h : i < l.length), W.cell? ⟨p, off + i * 7, none⟩ = Option.some (.int .i64 l[i].v.w) ∧ W.cell? ⟨p, off + i * 7 + 1, none⟩ = Option.some (.int .u64 l[i].v.hi) ∧ W.cell? ⟨p, off + i * 7 + 2, none⟩ = Option.some (.int .u64 l[i].v.lo) ∧ W.cell? ⟨p, off + i * 7 + 3, none⟩ = Option.some (.int .i64 l[i].m.w) ∧ W.cell? ⟨p, off + i * 7 + 4, none⟩ = Option.some (.int .u64 l[i].m.hi) ∧ W.cell? ⟨p, off + i * 7 + 5, none⟩ = Option.some (.int .u64 l[i].m.lo) ∧ W.cell? ⟨p, off + i * 7 + 6, none⟩ = Option.some (.int .i64 l[i].len) := by
  rcases h with rfl | h
  · simp at hx
  · exact h
/- What each kind asks, by its number. -/
def mayF (k : Nat) : Nat := match k with | 1 => 72 | 2 => 74 | 3 => 77 | _ => 81
def matF (k : Nat) : Nat := match k with | 1 => 73 | 2 => 76 | 3 => 79 | _ => 83
theorem mayF_any (k : Nat) (h1 : 1 ≤ k) (h4 : k ≤ 4) (x : Mx) (n : Int) (hx : MxR x) (hn : n < 9223372036854775808) : Pure (mayF k) #[x.val, .int .i64 n] (.bool (mayK k x n)) := by
  rcases (by omega : k = 1 ∨ k = 2 ∨ k = 3 ∨ k = 4) with rfl | rfl | rfl | rfl
  · exact exactMay_any x n
  · exact prefixMay_any x n hn
  · exact maskMay_any x n hx
  · exact rangeMay_any x n hx
theorem matF_any (k : Nat) (h1 : 1 ≤ k) (h4 : k ≤ 4) (x : Mx) (key : Nb) (hx : MxR x) (hn : key.w < 9223372036854775808) : Pure (matF k) #[x.val, key.val] (.bool (matK k x key)) := by
  rcases (by omega : k = 1 ∨ k = 2 ∨ k = 3 ∨ k = 4) with rfl | rfl | rfl | rfl
  · exact exactMat_any x key
  · exact begins_any x key hn
  · exact maskMat_any x key hx
  · exact rangeMat_any x key hx
theorem kindsL_may (k : Nat) (h1 : 1 ≤ k) (h4 : k ≤ 4) : kindsL[k * 2]? = some (.func (.func (mayF k)) #[] #[]) := by
  rcases (by omega : k = 1 ∨ k = 2 ∨ k = 3 ∨ k = 4) with rfl | rfl | rfl | rfl <;> rfl
theorem kindsL_mat (k : Nat) (h1 : 1 ≤ k) (h4 : k ≤ 4) : kindsL[k * 2 + 1]? = some (.func (.func (matF k)) #[] #[]) := by
  rcases (by omega : k = 1 ∨ k = 2 ∨ k = 3 ∨ k = 4) with rfl | rfl | rfl | rfl <;> rfl
/- The block of the rows, and the block of a table. -/
def KiB (W : World) (b : Nat) : Prop := W.heap[b]? = some (.cells kindsL.toArray 94 (0, 0))
def TbB (W : World) (b : Nat) (x : TbL) : Prop := W.heap[b]? = some (.cells #[.slice x.ka x.t.ks.length x.kc, .slice x.wa x.t.ws.length x.wc, .int .i64 x.t.size] 25 (0, 0))
end Go.Proofs.Ythkhdmdllhbfeaa
