/- CellsApart, walked. -/
import Derived.Test.YtngeclnlgoamkaaCeQ
import Derived.RegionTactic
namespace Go.Proofs.Ytngeclnlgoamkaa
open Go.RowKit

theorem zeroWant : ∀ w, (zeroValue 58).run Try.prog w = .ok (.agg (List.replicate 256 (Value.int .u64 0)).toArray) w := fun w => by kernel_rfl
def arC (n : Nat) (ca la : Option Addr) : List Value := [.string ⟨#[99]⟩, .int .u8 4, .int .i64 64, .int .i64 0, .int .i64 0, .slice ca n n, .slice la 0 0]
/- What the loop holds. -/
structure ApS (w0 W : World) (A Wn n : Nat) (xs : List Nat) (k : Nat) (ca la : Option Addr) : Prop where
  bl : Below w0.heap.size w0 W
  ar : W.heap[A]? = some (.cells (arC n ca la).toArray 33 (0, 0))
  an : ArN W w0.heap.size (arK n xs k) ca la
  wn : W.heap[Wn]? = some (.cells (wantK n xs k).toArray 58 (0, 0))
  la' : w0.heap.size ≤ A
  lw : w0.heap.size ≤ Wn
theorem ApS.below {w0 W W' : World} {A Wn n : Nat} {xs : List Nat} {k : Nat} {ca la : Option Addr} (h : ApS w0 W A Wn n xs k ca la) (hb : Below W.heap.size W W') : ApS w0 W' A Wn n xs k ca la :=
  ⟨bstep h.bl hb, heap_below hb h.ar, h.an.below hb, heap_below hb h.wn, h.la', h.lw⟩
theorem ApS.drew {w0 W : World} {A Wn n : Nat} {xs : List Nat} {k : Nat} {ca la : Option Addr} (h : ApS w0 W A Wn n xs k ca la) : ApS w0 W.drew A Wn n xs k ca la :=
  ⟨h.bl.drew, h.ar, ⟨h.an.cs, h.an.ls⟩, h.wn, h.la', h.lw⟩
theorem heap_ne {W : World} {b c : Nat} {x y : Array Value} {t u : TypeId} {f g : Nat × Nat} (h : W.heap[b]? = some (.cells x t f)) (k : W.heap[c]? = some (.cells y u g)) (hne : t ≠ u) : b ≠ c := fun e => by
  subst e
  rw [h] at k
  injection k with k
  injection k with _ k _
  exact hne k
/- One was counted. -/
theorem ApS.next {w0 W W1 W2 W3 : World} {A Wn n : Nat} {xs : List Nat} {k : Nat} {ca la ca1 la1 : Option Addr} (h : ApS w0 W A Wn n xs k ca la) (hb : Below W.heap.size W W1) (hn : ArN W1 W.heap.size (arK n xs (k + 1)) ca1 la1)
    (hf : Fr (· = A) W1 W2) (hr : W2.heap[A]? = some (.cells (arC n ca1 la1).toArray 33 (0, 0))) (x : Nat) (v : Value) (hw : (wantK n xs k).set x v = wantK n xs (k + 1)) (h3 : W3 = W2.setCell ⟨Wn, x, none⟩ v) : ApS w0 W3 A Wn n xs (k + 1) ca1 la1 := by
  have h1 := h.below hb
  have hA : A < W.heap.size := lt_heap h.ar
  have hW : Wn < W.heap.size := lt_heap h.wn
  have hne : A ≠ Wn := heap_ne h.ar h.wn (by decide)
  have hn2 : ArN W2 W.heap.size (arK n xs (k + 1)) ca1 la1 := ⟨hn.cs.fr hA hf, hn.ls.fr hA hf⟩
  have hn3 : ArN W3 W.heap.size (arK n xs (k + 1)) ca1 la1 := by rw [h3]; exact ⟨hn2.cs.set _ _ hW, hn2.ls.set _ _ hW⟩
  have hw2 : W2.heap[Wn]? = some (.cells (wantK n xs k).toArray 58 (0, 0)) := (hf.block Wn (lt_heap h1.wn) (fun e => hne e.symm)).trans h1.wn
  refine ⟨?_, ?_, hn3.mono h.bl.size, ?_, h.la', h.lw⟩
  · rw [h3]
    exact (h1.bl.trans (hf.below (fun b e => by rw [e]; exact h.la') h1.bl.size)).setCell h.lw _
  · rw [h3]
    exact (Below.heap_setCell W2 ⟨Wn, x, none⟩ v A hne).trans hr
  · rw [h3, heap_setCell_same hw2, ← hw]
    simp
theorem pushed {n : Nat} {xs : List Nat} {k : Nat} {ca la : Option Addr} : arV (arK n xs k) ca la = .agg #[.string ⟨#[99]⟩, .int .u8 4, .int .i64 64, .int .i64 0, .int .i64 0, .slice ca n n, .slice la 0 0] := by
  simp [arV, arK]
theorem count_step (n : Nat) (xs : List Nat) (k : Nat) (h : k < xs.length) (h1 : 1 ≤ n) (h2 : n ≤ 4096) (hx : xs.length ≤ 500) (hv : xs[k] < 256) (hn : xs[k] < n) {B : Nat} (W : World) (ca la : Option Addr) (ha : ArN W B (arK n xs k) ca la) :
    Calls Try.prog 16 #[.agg #[.string ⟨#[99]⟩, .int .u8 4, .int .i64 64, .int .i64 0, .int .i64 0, .slice ca n n, .slice la 0 0], .agg #[.int .i64 8, .int .u64 0, .int .u64 xs[k]]] W fun e w' => ∃ ca1 la1, e = .returned (.tuple #[.agg #[.string ⟨#[99]⟩, .int .u8 4, .int .i64 64, .int .i64 0, .int .i64 0, .slice ca1 n n, .slice la1 0 0], .int .i64 0]) ∧ ArN w' W.heap.size (arK n xs (k + 1)) ca1 la1 ∧ Below W.heap.size W w' := by
  have hc : countC (arK n xs k) ⟨8, 0, xs[k]⟩ = 0 := by rw [arK_count n xs k xs[k] h1 h2 hx hv, if_pos hn]
  have i8 : i64R 8 := ⟨by decide, by decide⟩
  have := count_yes ⟨arK n xs k, ca, n, la, 0⟩ ⟨8, 0, xs[k]⟩ W (ha.r (arK_g n xs k h2 hx)) ⟨i8, u64z, ⟨by show (0 : Int) ≤ xs[k]; omega, by show (xs[k] : Int) < 18446744073709551616; omega⟩⟩ hc
  simp only [Int.toNat_natCast] at this
  rw [arK_put n xs k h hx hn] at this
  have e : (⟨arK n xs k, ca, n, la, 0⟩ : ArL).val = .agg #[.string ⟨#[99]⟩, .int .u8 4, .int .i64 64, .int .i64 0, .int .i64 0, .slice ca n n, .slice la 0 0] := by simp [ArL.val, arK]
  rw [e] at this
  refine this.mono ?_
  rintro e w' ⟨ca1, la1, rfl, hN, hb⟩
  exact ⟨ca1, la1, by rw [pushed], hN, hb⟩
theorem count_stop (n : Nat) (xs : List Nat) (k : Nat) (h : k < xs.length) (h1 : 1 ≤ n) (h2 : n ≤ 4096) (hx : xs.length ≤ 500) (hv : xs[k] < 256) (hn : ¬ xs[k] < n) {B : Nat} (W : World) (ca la : Option Addr) (ha : ArN W B (arK n xs k) ca la) :
    Calls Try.prog 16 #[.agg #[.string ⟨#[99]⟩, .int .u8 4, .int .i64 64, .int .i64 0, .int .i64 0, .slice ca n n, .slice la 0 0], .agg #[.int .i64 8, .int .u64 0, .int .u64 xs[k]]] W fun e w' => e = .returned (.tuple #[.agg #[.string ⟨#[]⟩, .int .u8 0, .int .i64 0, .int .i64 0, .int .i64 0, .slice none 0 0, .slice none 0 0], .int .i64 11]) ∧ Below W.heap.size W w' := by
  have hc : countC (arK n xs k) ⟨8, 0, xs[k]⟩ = 11 := by rw [arK_count n xs k xs[k] h1 h2 hx hv, if_neg hn]
  have i8 : i64R 8 := ⟨by decide, by decide⟩
  have := count_no ⟨arK n xs k, ca, n, la, 0⟩ ⟨8, 0, xs[k]⟩ W (ha.r (arK_g n xs k h2 hx)) ⟨i8, u64z, ⟨by show (0 : Int) ≤ xs[k]; omega, by show (xs[k] : Int) < 18446744073709551616; omega⟩⟩ 11 hc (by decide)
  have e : (⟨arK n xs k, ca, n, la, 0⟩ : ArL).val = .agg #[.string ⟨#[99]⟩, .int .u8 4, .int .i64 64, .int .i64 0, .int .i64 0, .slice ca n n, .slice la 0 0] := by simp [ArL.val, arK]
  rw [e] at this
  exact this
theorem new_one (d : De) (hd : DeOk d) (hm : mayA d.a = true) (p : Nat) (w : World) (h : w.heap[p]? = some (.cells d.cs.toArray 53 (0, 0))) : Calls Try.prog 17 #[.slice (some ⟨p, 0, none⟩) 1 1] w fun e w' => ∃ g cap ca la, e = .returned (.slice (some ⟨g, 0, none⟩) 1 cap) ∧ w'.cell? ⟨g, 0, none⟩ = some (.string d.a.name) ∧ w'.cell? ⟨g, 1, none⟩ = some (.int .u8 d.a.kind) ∧ w'.cell? ⟨g, 2, none⟩ = some (.int .i64 d.a.w) ∧ w'.cell? ⟨g, 3, none⟩ = some (.int .i64 d.a.rate) ∧ w'.cell? ⟨g, 4, none⟩ = some (.int .i64 d.a.burst) ∧ w'.cell? ⟨g, 5, none⟩ = some (.slice ca d.a.cs.length d.a.cs.length) ∧ w'.cell? ⟨g, 6, none⟩ = some (.slice la d.a.ls.length d.a.ls.length) ∧ ArN w' w.heap.size d.a ca la ∧ Below w.heap.size w w' := by
  refine (new_any p 0 1 [d] w (rdD_one h) (fun x hx => by rw [List.mem_singleton.1 hx]; exact hd) (by simp)).mono ?_
  rintro e w' ⟨v, xs, rfl, hm', ha⟩
  have hm2 : xs.map (·.a) = [d.a] := by rw [hm']; simp [newA, hm]
  rcases xs with _ | ⟨x, _ | ⟨z, r⟩⟩
  · simp at hm2
  · simp only [List.map_cons, List.map_nil, List.cons.injEq, and_true] at hm2
    obtain ⟨xa, xca, xcc, xla, xlc⟩ := x
    simp only at hm2
    subst hm2
    obtain ⟨g, cap, hv, _, hcl⟩ := ha.get (by simp)
    subst hv
    obtain ⟨h1, h2, h3, h4⟩ := ha.ok _ (List.mem_cons_self ..)
    simp only at h1 h2 h3 h4
    subst h3 h4
    exact ⟨g, cap, xca, xla, rfl, hcl 0 (by simp) 0 _ rfl, hcl 0 (by simp) 1 _ rfl, hcl 0 (by simp) 2 _ rfl, hcl 0 (by simp) 3 _ rfl, hcl 0 (by simp) 4 _ rfl, hcl 0 (by simp) 5 _ rfl, hcl 0 (by simp) 6 _ rfl, h1, ha.bl⟩
  · simp at hm2
/- The counted array, with a block of its own for the variable that takes it. -/
structure CnV (wr W : World) (n : Nat) (xs : List Nat) (k b : Nat) (ca1 la1 : Option Addr) : Prop where
  bl : Below wr.heap.size wr W
  an : ArN W wr.heap.size (arK n xs (k + 1)) ca1 la1
  bk : W.heap[b]? = some (.cells (arC n ca1 la1).toArray 33 (0, 0))
  lb : wr.heap.size ≤ b
theorem cntA {wr w5 : World} {n : Nat} {xs : List Nat} {k : Nat} {ca1 la1 : Option Addr} (hn : ArN w5 wr.drew.heap.size (arK n xs (k + 1)) ca1 la1) (hb : Below wr.drew.heap.size wr.drew w5) : CnV wr (w5.alloc (.cells #[.string ⟨#[99]⟩, .int .u8 4, .int .i64 64, .int .i64 0, .int .i64 0, .slice ca1 n n, .slice la1 0 0] 33)) n xs k w5.heap.size ca1 la1 := by
  have h1 : Below wr.heap.size wr w5 := ⟨hb.os, hb.tape, hb.output, hb.size, hb.block⟩
  exact ⟨bstep h1 (below1 _ _), (hn.mono (Nat.le_refl _)).below (below1 _ _), heap_alloc_new _ _, h1.size⟩
/- The block of that variable, made ahead of the call. -/
structure CnB (wr W : World) (n : Nat) (xs : List Nat) (k : Nat) (ca1 la1 : Option Addr) : Prop where
  bl : Below wr.heap.size wr W
  an : ArN W (wr.heap.size + 1) (arK n xs (k + 1)) ca1 la1
  bk : W.heap[wr.heap.size]? = some (.cells #[.string ⟨#[]⟩, .int .u8 0, .int .i64 0, .int .i64 0, .int .i64 0, .slice none 0 0, .slice none 0 0] 33 (0, 0))
theorem cntB {wr w5 : World} {n : Nat} {xs : List Nat} {k : Nat} {ca1 la1 : Option Addr} (hn : ArN w5 (wr.alloc (.cells #[.string ⟨#[]⟩, .int .u8 0, .int .i64 0, .int .i64 0, .int .i64 0, .slice none 0 0, .slice none 0 0] 33)).drew.heap.size (arK n xs (k + 1)) ca1 la1) (hb : Below (wr.alloc (.cells #[.string ⟨#[]⟩, .int .u8 0, .int .i64 0, .int .i64 0, .int .i64 0, .slice none 0 0, .slice none 0 0] 33)).drew.heap.size (wr.alloc (.cells #[.string ⟨#[]⟩, .int .u8 0, .int .i64 0, .int .i64 0, .int .i64 0, .slice none 0 0, .slice none 0 0] 33)).drew w5) : CnB wr w5 n xs k ca1 la1 := by
  have h1 : Below (wr.alloc (.cells #[.string ⟨#[]⟩, .int .u8 0, .int .i64 0, .int .i64 0, .int .i64 0, .slice none 0 0, .slice none 0 0] 33)).heap.size (wr.alloc (.cells #[.string ⟨#[]⟩, .int .u8 0, .int .i64 0, .int .i64 0, .int .i64 0, .slice none 0 0, .slice none 0 0] 33)) w5 := ⟨hb.os, hb.tape, hb.output, hb.size, hb.block⟩
  refine ⟨bstep (below1 _ _) h1, hn.mono ?_, heap_below h1 (heap_alloc_new _ _)⟩
  show wr.heap.size + 1 ≤ (wr.alloc _).heap.size
  rw [World.size_alloc]
  exact Nat.le_refl _
theorem CnB.v {wr W : World} {n : Nat} {xs : List Nat} {k : Nat} {ca1 la1 : Option Addr} (h : CnB wr W n xs k ca1 la1) : CnV wr (setAll wr.heap.size W 0 (arC n ca1 la1)) n xs k wr.heap.size ca1 la1 := by
  have hf := fr_all wr.heap.size (arC n ca1 la1) W 0
  exact ⟨h.bl.trans (hf.below (fun b e => Nat.le_of_eq e.symm) h.bl.size), (ArN.mono ⟨h.an.cs.fr (Nat.lt_succ_self _) hf, h.an.ls.fr (Nat.lt_succ_self _) hf⟩ (Nat.le_succ _)), got0 h.bk rfl, Nat.le_refl _⟩
theorem soft_blk {W : World} {g : Nat} {t : TypeId} {cs : List Value} (h : W.heap[g]? = some (.cells cs.toArray t (0, 0))) (j : Nat) : W.frozen? ⟨g, j, none⟩ = false := softA h j
theorem stpA {wr w5 : World} (hb : Below wr.drew.heap.size wr.drew w5) : Below wr.heap.size wr (w5.alloc (.cells #[.string ⟨#[]⟩, .int .u8 0, .int .i64 0, .int .i64 0, .int .i64 0, .slice none 0 0, .slice none 0 0] 33)) := by
  have h1 : Below wr.heap.size wr w5 := ⟨hb.os, hb.tape, hb.output, hb.size, hb.block⟩
  exact bstep h1 (below1 _ _)
theorem stpB {wr w5 : World} (hb : Below (wr.alloc (.cells #[.string ⟨#[]⟩, .int .u8 0, .int .i64 0, .int .i64 0, .int .i64 0, .slice none 0 0, .slice none 0 0] 33)).drew.heap.size (wr.alloc (.cells #[.string ⟨#[]⟩, .int .u8 0, .int .i64 0, .int .i64 0, .int .i64 0, .slice none 0 0, .slice none 0 0] 33)).drew w5) : Below wr.heap.size wr w5 ∧ w5.heap[wr.heap.size]? = some (.cells #[.string ⟨#[]⟩, .int .u8 0, .int .i64 0, .int .i64 0, .int .i64 0, .slice none 0 0, .slice none 0 0] 33 (0, 0)) := by
  have h1 : Below (wr.alloc (.cells #[.string ⟨#[]⟩, .int .u8 0, .int .i64 0, .int .i64 0, .int .i64 0, .slice none 0 0, .slice none 0 0] 33)).heap.size (wr.alloc (.cells #[.string ⟨#[]⟩, .int .u8 0, .int .i64 0, .int .i64 0, .int .i64 0, .slice none 0 0, .slice none 0 0] 33)) w5 := ⟨hb.os, hb.tape, hb.output, hb.size, hb.block⟩
  exact ⟨bstep (below1 _ _) h1, heap_below h1 (heap_alloc_new _ _)⟩
theorem stpC {wr w5 : World} (h : Below wr.heap.size wr w5 ∧ w5.heap[wr.heap.size]? = some (.cells #[.string ⟨#[]⟩, .int .u8 0, .int .i64 0, .int .i64 0, .int .i64 0, .slice none 0 0, .slice none 0 0] 33 (0, 0))) : Below wr.heap.size wr (setAll wr.heap.size w5 0 zeroC) :=
  h.1.trans ((fr_all wr.heap.size zeroC w5 0).below (fun _ e => Nat.le_of_eq e.symm) h.1.size)
end Go.Proofs.Ytngeclnlgoamkaa
