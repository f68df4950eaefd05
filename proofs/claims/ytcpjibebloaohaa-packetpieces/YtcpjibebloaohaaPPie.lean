/- pointsmanlaw02.PacketPieces: two cursors. -/
import Derived.Test.YtcpjibebloaohaaPAliv
import Derived.Test.YtcpjibebloaohaaActs
namespace Go.Proofs.Ytcpjibebloaohaa
open Go.RowKit

def BySl (W : World) (v : Value) (xs : List Nat) : Prop := (v = .slice none 0 0 ∧ xs = []) ∨ ∃ p off cap, v = .slice (some ⟨p, off, none⟩) xs.length cap ∧ ∀ i (h : i < xs.length), W.cell? ⟨p, off + i, none⟩ = some (.int .u8 (xs[i] : Nat))
theorem BySl.keep {W W' : World} {v : Value} {xs : List Nat} (h : BySl W v xs) (hb : Below W.heap.size W W') : BySl W' v xs := by
  rcases h with h | ⟨p, off, cap, hv, hc⟩
  · exact .inl h
  · exact .inr ⟨p, off, cap, hv, fun i hi => (hb.cell (p := ⟨p, off + i, none⟩) (World.block_lt_of_cell? W _ (hc i hi))).trans (hc i hi)⟩
theorem new_any (W : World) (v : Value) (xs : List Nat) (h : BySl W v xs) (hl : xs.length ≤ 65536) :
    Calls Try.prog 7 #[v] W fun e w' => ∃ g a c, e = .returned (.tuple #[.pointer (some ⟨g, 0, none⟩), .int .i64 0]) ∧ W.heap.size ≤ g ∧ (∀ q, a = some q → W.heap.size ≤ q.block) ∧ Cur w' g a c xs 0 ∧ Below W.heap.size W w' := by
  rcases h with ⟨rfl, rfl⟩ | ⟨p, off, cap, rfl, hc⟩
  · exact (new_nil W).mono (fun e w' ⟨g, h1, h2, h3, h4⟩ => ⟨g, none, 0, h1, h2, (fun q e => by cases e), h3, h4⟩)
  · exact (new_some p off cap xs W hl hc).mono (fun e w' ⟨g, q, c, h1, _, h2, h3, h4, h5⟩ => ⟨g, some ⟨q, 0, none⟩, c, h1, h2, (fun r e => by cases e; exact h3), h4, h5⟩)
structure Two (w W : World) (g1 g2 B : Nat) (a1 a2 : Option Addr) (c1 c2 : Nat) (xs : List Nat) (t1 t2 : Nat) (w0 w1 : Int) : Prop where
  below : Below w.heap.size w W
  cur1 : Cur W g1 a1 c1 xs t1
  cur2 : Cur W g2 a2 c2 xs t2
  x0 : W.cell? ⟨B, 0, none⟩ = some (.int .i64 w0)
  x1 : W.cell? ⟨B, 1, none⟩ = some (.int .i64 w1)
  ne : g1 ≠ g2
  n1 : ∀ q, a1 = some q → q.block ≠ g2
  n2 : ∀ q, a2 = some q → q.block ≠ g1
  b1 : B ≠ g1
  b2 : B ≠ g2
  h1 : w.heap.size ≤ g1
  h2 : w.heap.size ≤ g2
theorem Two.next {w W W' : World} {g1 g2 B : Nat} {a1 a2 : Option Addr} {c1 c2 : Nat} {xs : List Nat} {t1 t2 : Nat} {w0 w1 : Int} (h : Two w W g1 g2 B a1 a2 c1 c2 xs t1 t2 w0 w1) (hb : Below W.heap.size W W') : Two w W' g1 g2 B a1 a2 c1 c2 xs t1 t2 w0 w1 :=
  have hl : B < W.heap.size := World.block_lt_of_cell? W _ h.x0
  ⟨h.below.trans (hb.mono h.below.size), h.cur1.keep hb, h.cur2.keep hb, (hb.cell (p := ⟨B, 0, none⟩) hl).trans h.x0, (hb.cell (p := ⟨B, 1, none⟩) hl).trans h.x1, h.ne, h.n1, h.n2, h.b1, h.b2, h.h1, h.h2⟩
theorem Two.move1 {w W W' : World} {g1 g2 B : Nat} {a1 a2 : Option Addr} {c1 c2 : Nat} {xs : List Nat} {t1 t2 s : Nat} {w0 w1 : Int} (h : Two w W g1 g2 B a1 a2 c1 c2 xs t1 t2 w0 w1) (hm : Moved g1 W W') (hc : Cur W' g1 a1 c1 xs s) : Two w W' g1 g2 B a1 a2 c1 c2 xs s t2 w0 w1 :=
  have hl : B < W.heap.size := World.block_lt_of_cell? W _ h.x0
  ⟨h.below.trans (hm.below h.h1 h.below.size), hc, h.cur2.other hm (Ne.symm h.ne) h.n2, (hm.cell (p := ⟨B, 0, none⟩) hl h.b1).trans h.x0, (hm.cell (p := ⟨B, 1, none⟩) hl h.b1).trans h.x1, h.ne, h.n1, h.n2, h.b1, h.b2, h.h1, h.h2⟩
theorem Two.move2 {w W W' : World} {g1 g2 B : Nat} {a1 a2 : Option Addr} {c1 c2 : Nat} {xs : List Nat} {t1 t2 s : Nat} {w0 w1 : Int} (h : Two w W g1 g2 B a1 a2 c1 c2 xs t1 t2 w0 w1) (hm : Moved g2 W W') (hc : Cur W' g2 a2 c2 xs s) : Two w W' g1 g2 B a1 a2 c1 c2 xs t1 s w0 w1 :=
  have hl : B < W.heap.size := World.block_lt_of_cell? W _ h.x0
  ⟨h.below.trans (hm.below h.h2 h.below.size), h.cur1.other hm h.ne h.n1, hc, (hm.cell (p := ⟨B, 0, none⟩) hl h.b2).trans h.x0, (hm.cell (p := ⟨B, 1, none⟩) hl h.b2).trans h.x1, h.ne, h.n1, h.n2, h.b1, h.b2, h.h1, h.h2⟩
theorem al {W : World} (o : Obj) : Below W.heap.size W (W.alloc o) := (Below.refl _ W).alloc (Nat.le_refl _) o
set_option maxRecDepth 100000 in
theorem pieces_long (a : Option Addr) (n cap : Nat) (at' w0 w1 : Int) (w : World) (hn : 65536 < n) : Calls Try.prog 4 #[.slice a n cap, .int .u16 at', .agg #[.int .i64 w0, .int .i64 w1]] w fun e w' => e = .returned (.bool true) ∧ Below w.heap.size w w' := by
  have H := hide palive_any
  have HN := hide (fun W => new_limit a n cap W hn)
  have hI : (n : Int) > 65536 := by omega
  go_enter Try.func4, Try.ntmps4
  go_wp2_with fail
  refine (HN.out _).mono ?_
  rintro e w1' ⟨rfl, hw⟩
  subst hw
  go_wp2_with fail
  refine (HN.out _).mono ?_
  rintro e w2' ⟨rfl, hw⟩
  subst hw
  go_wp2_with fail
  refine (H.out _).mono ?_
  rintro e w3 ⟨rfl, hb3⟩
  go_wp2_with fail
  refine (H.out _).mono ?_
  rintro e w4 ⟨rfl, hb4⟩
  go_wp2
  go_ret
  exact ⟨rfl, (al _).trans ((hb3.trans (hb4.mono hb3.size)).mono (by simp))⟩
end Go.Proofs.Ytcpjibebloaohaa
