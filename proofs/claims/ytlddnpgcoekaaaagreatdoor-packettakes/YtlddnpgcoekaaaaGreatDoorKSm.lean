/- Package packet's small functions, and a cursor as it lies (PSmall's, over Rd, without Put's). -/
import Derived.Test.YtlddnpgcoekaaaaGreatDoorPBit
import Derived.Test.YtlddnpgcoekaaaaGreatDoorKOf
namespace Go.Proofs.YtlddnpgcoekaaaaGreatDoor
open Go.RowKit

theorem below_any (t : Nat) (w : World) (ht : t < 1099511627776) : Calls Tryz.prog 118 #[.int .i64 t] w fun e w' => e = .returned (.int .i64 ((7 - t % 8 : Nat) : Int)) ∧ w' = w := by
  go_enter Tryz.func118, Tryz.ntmps118
  go_wp2
  go_ret
  exact ⟨ret_int (by omega), rfl⟩
theorem pcount_any (t : Nat) (w : World) (ht : t < 1099511627776) : Calls Tryz.prog 121 #[.int .i64 t] w fun e w' => e = .returned (.int .i64 (((t + 7) / 8 : Nat) : Int)) ∧ w' = w := by
  go_enter Tryz.func121, Tryz.ntmps121
  go_wp2
  go_ret
  exact ⟨ret_int (by omega), rfl⟩
/- A cursor. -/
def RdC (W : World) (a : Option Addr) (xs : List Nat) : Prop :=
  (a = none ∧ xs = []) ∨ ∃ p off, a = some ⟨p, off, none⟩ ∧ p < W.heap.size ∧ ∀ i (h : i < xs.length), W.cell? ⟨p, off + i, none⟩ = some (.int .u8 (xs[i] : Nat))
structure Cur (W : World) (g : Nat) (a : Option Addr) (cap : Nat) (xs : List Nat) (t : Nat) : Prop where
  lt : g < W.heap.size
  c0 : W.cell? ⟨g, 0, none⟩ = some (.int .i64 t)
  f0 : W.frozen? ⟨g, 0, none⟩ = false
  c1 : W.cell? ⟨g, 1, none⟩ = some (.slice a xs.length cap)
  c2 : W.cell? ⟨g, 2, none⟩ = some (.bool true)
  rd : RdC W a xs
  ne : ∀ q, a = some q → q.block ≠ g
/- What Take does to memory. -/
structure Moved (g : Nat) (w w' : World) : Prop where
  os : w'.os = w.os
  tape : w'.tape = w.tape
  output : w'.output = w.output
  size : w.heap.size ≤ w'.heap.size
  block : ∀ {k : Nat}, k < w.heap.size → k ≠ g → w'.heap[k]? = w.heap[k]?
theorem Moved.ofBelow {g : Nat} {w w' : World} (h : Below w.heap.size w w') : Moved g w w' := ⟨h.os, h.tape, h.output, h.size, fun hk _ => h.block _ hk⟩
theorem Moved.step {g B : Nat} {w W w' : World} (h : Moved g w W) (k : Below B W w') (hB : w.heap.size ≤ B) : Moved g w w' :=
  ⟨k.os.trans h.os, k.tape.trans h.tape, k.output.trans h.output, Nat.le_trans h.size k.size, fun hk hg => (k.block _ (by omega)).trans (h.block hk hg)⟩
theorem Moved.trans {g : Nat} {w W w' : World} (h : Moved g w W) (k : Moved g W w') : Moved g w w' :=
  ⟨k.os.trans h.os, k.tape.trans h.tape, k.output.trans h.output, Nat.le_trans h.size k.size, fun hk hg => (k.block (Nat.lt_of_lt_of_le hk h.size) hg).trans (h.block hk hg)⟩
theorem Moved.setG {g : Nat} {w W : World} (h : Moved g w W) (o : Nat) (v : Value) : Moved g w (W.setCell ⟨g, o, none⟩ v) :=
  have k := (Below.refl 0 W).setCell (p := ⟨g, o, none⟩) (Nat.zero_le _) v
  ⟨k.os.trans h.os, k.tape.trans h.tape, k.output.trans h.output, Nat.le_trans h.size k.size, fun hk hg => (Below.heap_setCell _ _ _ _ hg).trans (h.block hk hg)⟩
theorem Moved.setCell {g : Nat} {w W : World} (h : Moved g w W) {p : Addr} (hp : w.heap.size ≤ p.block) (v : Value) : Moved g w (W.setCell p v) :=
  h.step ((Below.refl w.heap.size W).setCell hp v) (Nat.le_refl _)
theorem Moved.cell {g : Nat} {w w' : World} (h : Moved g w w') {p : Addr} (hk : p.block < w.heap.size) (hg : p.block ≠ g) : w'.cell? p = w.cell? p := World.cell?_of_block (w := w) (h.block hk hg)
theorem Moved.frozen {g : Nat} {w w' : World} (h : Moved g w w') {p : Addr} (hk : p.block < w.heap.size) (hg : p.block ≠ g) : w'.frozen? p = w.frozen? p := World.frozen?_of_block (w := w) (h.block hk hg)
theorem Moved.below {g B : Nat} {w w' : World} (h : Moved g w w') (hB : B ≤ g) (hw : B ≤ w.heap.size) : Below B w w' :=
  ⟨h.os, h.tape, h.output, h.size, fun _ hk => h.block (by omega) (by omega)⟩
theorem RdC.keep {W W' : World} {a : Option Addr} {xs : List Nat} (h : RdC W a xs) (hs : W.heap.size ≤ W'.heap.size) (hb : ∀ q, a = some q → W'.heap[q.block]? = W.heap[q.block]?) : RdC W' a xs := by
  rcases h with h | ⟨p, off, rfl, hp, hc⟩
  · exact .inl h
  · exact .inr ⟨p, off, rfl, by omega, fun i hi => by exact (World.cell?_of_block (w := W) (a := ⟨p, off + i, none⟩) (hb ⟨p, off, none⟩ rfl)).trans (hc i hi)⟩
theorem RdC.lt {W : World} {a : Option Addr} {xs : List Nat} (h : RdC W a xs) : ∀ q, a = some q → q.block < W.heap.size := by
  rcases h with ⟨rfl, _⟩ | ⟨p, off, rfl, hp, _⟩
  · intro q e; cases e
  · intro q e; cases e; exact hp
theorem Cur.keep {W W' : World} {g : Nat} {a : Option Addr} {cap : Nat} {xs : List Nat} {t : Nat} (h : Cur W g a cap xs t) (hb : Below W.heap.size W W') : Cur W' g a cap xs t :=
  ⟨Nat.lt_of_lt_of_le h.lt hb.size, (hb.cell (p := ⟨g, 0, none⟩) h.lt).trans h.c0, (hb.frozen (p := ⟨g, 0, none⟩) h.lt).trans h.f0, (hb.cell (p := ⟨g, 1, none⟩) h.lt).trans h.c1, (hb.cell (p := ⟨g, 2, none⟩) h.lt).trans h.c2, h.rd.keep hb.size (fun q e => hb.block _ (h.rd.lt q e)), h.ne⟩
theorem Cur.other {W W' : World} {g d : Nat} {a : Option Addr} {cap : Nat} {xs : List Nat} {t : Nat} (h : Cur W g a cap xs t) (hm : Moved d W W') (hd : g ≠ d) (ha : ∀ q, a = some q → q.block ≠ d) : Cur W' g a cap xs t :=
  ⟨Nat.lt_of_lt_of_le h.lt hm.size, (hm.cell (p := ⟨g, 0, none⟩) h.lt hd).trans h.c0, (hm.frozen (p := ⟨g, 0, none⟩) h.lt hd).trans h.f0, (hm.cell (p := ⟨g, 1, none⟩) h.lt hd).trans h.c1, (hm.cell (p := ⟨g, 2, none⟩) h.lt hd).trans h.c2, h.rd.keep hm.size (fun q e => hm.block (h.rd.lt q e) (ha q e)), h.ne⟩

theorem Cur.moved {W W' : World} {g : Nat} {a : Option Addr} {cap : Nat} {xs : List Nat} {t s : Nat} (h : Cur W g a cap xs t) (hm : Moved g W W') (c0 : W'.cell? ⟨g, 0, none⟩ = some (.int .i64 s)) (f0 : W'.frozen? ⟨g, 0, none⟩ = false) (c1 : W'.cell? ⟨g, 1, none⟩ = W.cell? ⟨g, 1, none⟩) (c2 : W'.cell? ⟨g, 2, none⟩ = W.cell? ⟨g, 2, none⟩) : Cur W' g a cap xs s :=
  ⟨Nat.lt_of_lt_of_le h.lt hm.size, c0, f0, c1.trans h.c1, c2.trans h.c2, h.rd.keep hm.size (fun q e => hm.block (h.rd.lt q e) (h.ne q e)), h.ne⟩

theorem isThere_any {w : World} {g : Nat} {a : Option Addr} {cap : Nat} {xs : List Nat} {t : Nat} (h : Cur w g a cap xs t) : Calls Tryz.prog 20 #[.pointer (some ⟨g, 0, none⟩)] w fun e w' => e = .returned (.bool true) ∧ Below w.heap.size w w' := by
  have h2 := h.c2
  have H := hide h
  clear h
  go_enter Tryz.func20, Tryz.ntmps20
  go_wp2
  go_ret
  exact ⟨rfl, Below.refl _ _⟩
theorem at_any {w : World} {g : Nat} {a : Option Addr} {cap : Nat} {xs : List Nat} {t : Nat} (h : Cur w g a cap xs t) : Calls Tryz.prog 12 #[.pointer (some ⟨g, 0, none⟩)] w fun e w' => e = .returned (.int .i64 t) ∧ Below w.heap.size w w' := by
  have HI := hide (isThere_any h)
  have H := hide h
  clear h
  go_enter Tryz.func12, Tryz.ntmps12
  go_wp2_with fail
  refine HI.out.mono ?_
  rintro e w1 ⟨rfl, hb⟩
  have H1 := hide (H.out.keep hb)
  have HB := hide hb
  have c0 := H1.out.c0
  clear hb
  go_wp2
  go_ret
  exact ⟨rfl, HB.out⟩
theorem left_any {w : World} {g : Nat} {a : Option Addr} {cap : Nat} {xs : List Nat} {t : Nat} (h : Cur w g a cap xs t) (hx : xs.length ≤ 100000) (ht : t ≤ 8 * xs.length) : Calls Tryz.prog 10 #[.pointer (some ⟨g, 0, none⟩)] w fun e w' => e = .returned (.int .i64 ((8 * xs.length - t : Nat) : Int)) ∧ Below w.heap.size w w' := by
  have HI := hide (isThere_any h)
  have H := hide h
  clear h
  go_enter Tryz.func10, Tryz.ntmps10
  go_wp2_with fail
  refine HI.out.mono ?_
  rintro e w1 ⟨rfl, hb⟩
  have H1 := hide (H.out.keep hb)
  have HB := hide hb
  have c0 := H1.out.c0
  have c1 := H1.out.c1
  clear hb
  go_wp2
  go_region
  all_goals
    go_wp2
    go_ret
    exact ⟨ret_int (by omega), HB.out.drew⟩
end Go.Proofs.YtlddnpgcoekaaaaGreatDoor
