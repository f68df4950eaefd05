/- pointsmanlaw04.DiskPlays: what it holds while it runs, of a disk that may not be there. -/
import Derived.Test.YtgfmkhgdndodkaaGreatDoorDvO
import Derived.Test.YtgfmkhgdndodkaaGreatDoorStoreZ
namespace Go.Proofs.YtgfmkhgdndodkaaGreatDoor
open Go.RowKit

def bk0 : Array Value := #[.int .i64 0, .slice none 0 0, .slice none 0 0, .slice none 0 0, .slice none 0 0, .slice none 0 0, .slice none 0 0, .slice none 0 0, .slice none 0 0, .slice none 0 0, .slice none 0 0, .slice none 0 0, .slice none 0 0, .slice none 0 0, .slice none 0 0, .slice none 0 0, .slice none 0 0, .slice none 0 0, .slice none 0 0, .slice none 0 0, .slice none 0 0, .slice none 0 0, .slice none 0 0, .slice none 0 0, .slice none 0 0, .slice none 0 0, .slice none 0 0, .slice none 0 0, .slice none 0 0, .slice none 0 0, .slice none 0 0]
theorem bk0_one : ∀ v ∈ bk0.toList, v.oneCell' = true := by
  intro v hv
  simp [bk0] at hv
  rcases hv with rfl | rfl <;> rfl
theorem two_alloc (X : World) (o1 : Obj) (cs : Array Value) (t : TypeId) : ((X.alloc o1).alloc (.cells cs t)).heap[X.heap.size + 1]? = some (.cells cs t (0, 0)) := by
  have := heap_alloc_new (X.alloc o1) (.cells cs t)
  rwa [World.size_alloc] at this
set_option maxRecDepth 100000 in
theorem bk_size : ∀ w : World, (sizeOf 67).run Tryz.prog w = .ok bk0.size w := fun w => by rfl
set_option maxRecDepth 100000 in
theorem plays_long (room : Int) (a : Option Addr) (n cap : Nat) (w : World) (h : 500 < n) : Calls Tryz.prog 3 #[.int .i64 room, .slice a n cap] w fun e w' => e = .returned (.bool true) ∧ Below w.heap.size w w' := by
  have d1 : decide ((n : Int) > 500) = true := by simp; omega
  have d2 : decide (500 < n) = true := by simp; omega
  go_enter Tryz.func3, Tryz.ntmps3
  go_wp2
  go_ret
  exact ⟨rfl, Below.refl _ _⟩
/- Ahead of each round. -/
def PlV (w : World) (B B' gb gz R : Nat) (pd pr : Option Addr) (vd fd vr vb : Value) (s : Option Ds) (hs : List Hb) (W : World) : Prop :=
  Four w W (DvC B pd R vd fd s) (DvF pd vd fd) (RvC B' pr R vr s) (RvF pr vr) (fun W => Bok W w.heap.size gb vb hs.length hs) (KF gb vb hs) (ZC w.heap.size gz) (fun b => b = gz)
/- In a round: the disk at one state, the document's at another. -/
def Av4 (w : World) (B B' gb gz go tb c R : Nat) (pd pr : Option Addr) (vd fd : Value) (s : Option Ds) (vr : Value) (s' : Option Ds) (vb : Value) (hs : List Hb) (o : Sop) (ts : List Nat) (W : World) : Prop :=
  Four w W (DvC B pd R vd fd s) (DvF pd vd fd) (RvC B' pr R vr s') (RvF pr vr) (fun W => Bok W w.heap.size gb vb hs.length hs) (KF gb vb hs) (ZT w.heap.size gz go tb c o ts) (ZF gz go tb)
section
variable {w : World} {B B' gb gz go tb c R : Nat} {pd pr : Option Addr} {vd fd vr vb : Value} {s s' : Option Ds} {hs : List Hb} {o : Sop} {ts : List Nat}
theorem Av4.d {W W' : World} {r : Option Ds} (h : Av4 w B B' gb gz go tb c R pd pr vd fd s vr s' vb hs o ts W) (k : DvTo B pd R vd fd W r W') : ∃ vd' fd', Av4 w B B' gb gz go tb c R pd pr vd' fd' r vr s' vb hs o ts W' := by
  obtain ⟨v', f', h1, h2, h3⟩ := k
  exact ⟨v', f', Four.step1 h h2 (DvC.comp ..) h1 h3⟩
theorem Av4.r {W W' : World} {r : Option Ds} (h : Av4 w B B' gb gz go tb c R pd pr vd fd s vr s' vb hs o ts W) (k : RvTo B' pr R vr W r W') : ∃ vr', Av4 w B B' gb gz go tb c R pd pr vd fd s vr' r vb hs o ts W' := by
  obtain ⟨v', h1, h2, h3⟩ := k
  exact ⟨v', Four.step2 h h2 (RvC.comp ..) h1 h3⟩
theorem Av4.z {W : World} (h : Av4 w B B' gb gz go tb c R pd pr vd fd s vr s' vb hs o ts W) : NoDk W (some ⟨gz, 0, none⟩) := .inr ⟨gz, rfl, (Four.c4 h).z.c⟩
theorem Av4.cells {W : World} (h : Av4 w B B' gb gz go tb c R pd pr vd fd s vr s' vb hs o ts W) : W.cell? ⟨go, 0, none⟩ = some (.int .u8 (o.k : Nat)) ∧ W.cell? ⟨go, 1, none⟩ = some (.int .i64 o.n) ∧ W.cell? ⟨go, 2, none⟩ = some (.slice o.a o.xs.length o.cap) := ⟨(Four.c4 h).b0, (Four.c4 h).b1, (Four.c4 h).b2⟩
theorem Av4.next {W W' : World} (h : Av4 w B B' gb gz go tb c R pd pr vd fd s vr s' vb hs o ts W) (hb : Below W.heap.size W W') : Av4 w B B' gb gz go tb c R pd pr vd fd s vr s' vb hs o ts W' := Four.next h hb
theorem Av4.drew {W : World} (h : Av4 w B B' gb gz go tb c R pd pr vd fd s vr s' vb hs o ts W) : Av4 w B B' gb gz go tb c R pd pr vd fd s vr s' vb hs o ts W.drew := Four.next h ⟨rfl, rfl, rfl, Nat.le_refl _, fun _ _ => rfl⟩
theorem Av4.mark {W : World} (h : Av4 w B B' gb gz go tb c R pd pr vd fd s vr s' vb hs o ts W) (j y : Nat) (n1 : tb ≠ gz) (n2 : tb ≠ go) : Av4 w B B' gb gz go tb c R pd pr vd fd s vr s' vb hs o (ts.set j y) (W.setCell ⟨tb, j, none⟩ (.int .u8 (y : Nat))) := by
  have z := Four.c4 h
  have hF : Fr (fun b => b = tb) W (W.setCell ⟨tb, j, none⟩ (.int .u8 (y : Nat))) := (Fr.refl _ W).set _ _ rfl
  exact Four.step4 h ((Fr.refl _ W).set _ _ (.inr (.inr rfl))) (ZT.comp _ _ _ _ _ _ _) ⟨⟨hF.cell z.z.c (fun e => n1 e.symm)⟩, hF.cell z.b0 (fun e => n2 e.symm), hF.cell z.b1 (fun e => n2 e.symm), hF.cell z.b2 (fun e => n2 e.symm), z.t.set j y⟩ (fun b e => .inl e)
theorem Av4.close {W : World} (h : Av4 w B B' gb gz go tb c R pd pr vd fd s vr s vb hs o ts W) : PlV w B B' gb gz R pd pr vd fd vr vb s hs W :=
  Four.weak4 h (ZC.comp _ _) (Four.c4 h).z (fun _ e => .inl e)
theorem PlV.open {wr W1 W2 : World} (h : PlV w B B' gb gz R pd pr vd fd vr vb s hs wr) (b1 : Below wr.heap.size wr W1) (b2 : Below W1.heap.size W1 W2)
    (hb : W1.cell? ⟨wr.heap.size, 0, none⟩ = some (.int .u8 (o.k : Nat)) ∧ W1.cell? ⟨wr.heap.size, 1, none⟩ = some (.int .i64 o.n) ∧ W1.cell? ⟨wr.heap.size, 2, none⟩ = some (.slice o.a o.xs.length o.cap)) (ht : Own8 W2 W1.heap.size (.slice (some ⟨tb, 0, none⟩) (o.xs.length + 1) c) (o.xs ++ [77])) :
    Av4 w B B' gb gz wr.heap.size tb c R pd pr vd fd s vr s vb hs o (o.xs ++ [77]) W2 := by
  have h4 := h
  have b12 : Below wr.heap.size wr W2 := b1.trans (b2.mono b1.size)
  have hlt : wr.heap.size < W1.heap.size := World.block_lt_of_cell? W1 _ hb.1
  have htb := (World.ownsRow.lt ht tb rfl).1
  have hc : ∀ j, W2.cell? ⟨wr.heap.size, j, none⟩ = W1.cell? ⟨wr.heap.size, j, none⟩ := fun j => b2.cell (p := ⟨wr.heap.size, j, none⟩) hlt
  have hbl := Four.bl h4
  refine Four.step4 h4 (Fr.ofBelow b12) (ZT.comp _ _ _ _ _ _ _) ⟨(Four.k4 h4).st (E := fun _ => False) (Four.c4 h4) (Fr.ofBelow b12) (fun _ _ e => e), (hc 0).trans hb.1, (hc 1).trans hb.2.1, (hc 2).trans hb.2.2, ownsRow_lower ht (by have := hbl.size; have := b1.size; omega)⟩ (fun b e => ?_)
  rcases e with e | e | e
  · exact .inl e
  · exact .inr (by omega)
  · exact .inr (by omega)
/- A list of bytes of one's own is told to the Book. -/
theorem Av4.tell {W W' : World} {vb' : Value} {x : Hb} (_h : Av4 w B B' gb gz go tb c R pd pr vd fd s vr s' vb hs o ts W) (hk : Bok W' w.heap.size gb vb' (hs.length + 1) (hs ++ [x])) (hf : Fr (BE gb vb) W W') (hv : ∀ b, vb'.ownBlock = some b → vb.ownBlock = some b ∨ W.heap.size ≤ b) {W0 : World} (h0 : Av4 w B B' gb gz go tb c R pd pr vd fd s vr s' vb hs o ts W0) (hb0 : Below W0.heap.size W0 W) (hx : ∀ b, x.v.ownBlock = some b → W0.heap.size ≤ b) :
    Av4 w B B' gb gz go tb c R pd pr vd fd s vr s' vb' (hs ++ [x]) o ts W' := by
  have hfr : Fr (KF gb vb hs) W0 W' := (Fr.ofBelow (E := KF gb vb hs) hb0).trans hf (fun b _ e => .inl e)
  refine Four.step3 h0 hfr (Bok.comp ..) (by rw [List.length_append, List.length_singleton]; exact hk) (fun b e => ?_)
  rcases e with (e | e) | ⟨y, hy, e⟩
  · exact .inl (.inl (.inl e))
  · rcases hv b e with e | e
    · exact .inl (.inl (.inr e))
    · exact .inr (Nat.le_trans hb0.size e)
  · rcases List.mem_append.1 hy with hy | hy
    · exact .inl (.inr ⟨y, hy, e⟩)
    · obtain rfl := List.mem_singleton.1 hy
      exact .inr (hx b e)
end
theorem PlV.start {w w2 w3 : World} {room : Int} {pd pr : Option Addr} {o1 : Obj} {t : TypeId} (hd : DvC w.heap.size pd room.toNat (.slice none 0 0) .nilFunc (s0 room) w2) (hb2 : Below w.heap.size w w2) (hr : RvC w2.heap.size pr room.toNat (.slice none 0 0) (s0 room) w3) (hb3 : Below w2.heap.size w2 w3) (hz : (w3.alloc o1).cell? ⟨w3.heap.size, 0, none⟩ = some (.int .i64 0)) :
    PlV w w.heap.size w2.heap.size (w3.heap.size + 1) w3.heap.size room.toNat pd pr (.slice none 0 0) .nilFunc (.slice none 0 0) (.slice none 0 0) (s0 room) [] ((w3.alloc o1).alloc (.cells bk0 t)) := by
  have hba : Below w3.heap.size w3 ((w3.alloc o1).alloc (.cells bk0 t)) := ((Below.refl _ w3).alloc (Nat.le_refl _) o1).alloc (by simp) _
  have hh := two_alloc w3 o1 bk0 t
  have hzz : ((w3.alloc o1).alloc (.cells bk0 t)).cell? ⟨w3.heap.size, 0, none⟩ = some (.int .i64 0) := by
    rw [World.cell?_alloc_past _ _ _ (by simp)]; exact hz
  have dF : ∀ b, DvF pd (.slice none 0 0) .nilFunc b → w.heap.size ≤ b ∧ b < w2.heap.size := fun b hb => by
    refine ⟨?_, (DvC.comp ..).lt hd hb⟩
    obtain ⟨g, e, hb⟩ := hb
    cases hs : s0 room with
    | none => rw [hs] at hd; have : pd = none := hd; rw [this] at e; cases e
    | some s =>
      rw [hs] at hd
      obtain ⟨g', e', hd⟩ := hd
      rw [e] at e'; cases e'
      rcases hb with hb | ⟨k, hb⟩
      · exact Dk.E hd b hb
      · cases hb
  have rF : ∀ b, RvF pr (.slice none 0 0) b → w2.heap.size ≤ b ∧ b < w3.heap.size := fun b hb => by
    refine ⟨?_, (RvC.comp ..).lt hr hb⟩
    obtain ⟨g, e, hb⟩ := hb
    cases hs : s0 room with
    | none => rw [hs] at hr; have : pr = none := hr; rw [this] at e; cases e
    | some s =>
      rw [hs] at hr
      obtain ⟨g', e', hr⟩ := hr
      rw [e] at e'; cases e'
      rcases hb with hb | hb
      · rw [hb]; exact hr.gB
      · cases hb
  have n3 : ∀ b, KF (w3.heap.size + 1) (.slice none 0 0) [] b → b = w3.heap.size + 1 := fun b e => by
    rcases e with (e | e) | ⟨x, hx, _⟩
    · exact e
    · cases e
    · simp at hx
  have z2 := hb2.size
  have z3 := hb3.size
  exact ⟨hb2.trans ((hb3.trans (hba.mono z3)).mono z2), DvC.comp .., RvC.comp .., Bok.comp .., ZC.comp .., (DvC.comp ..).st ((DvC.comp ..).st hd (Fr.ofBelow (E := fun _ => False) hb3) (fun _ _ e => e)) (Fr.ofBelow (E := fun _ => False) hba) (fun _ _ e => e), (RvC.comp ..).st hr (Fr.ofBelow (E := fun _ => False) hba) (fun _ _ e => e), Bok.new (by omega) ⟨t, hh⟩, ⟨hzz⟩,
    fun b hb => (dF b hb).1, fun b hb => Nat.le_trans z2 (rF b hb).1, fun b hb => by have := n3 b hb; omega, fun b hb => by have : b = w3.heap.size := hb; omega,
    fun b h1 h2 => by have := dF b h1; have := rF b h2; omega, fun b h1 h2 => by have := dF b h1; have := n3 b h2; omega, fun b h1 h2 => by have := dF b h1; have : b = w3.heap.size := h2; omega, fun b h1 h2 => by have := rF b h1; have := n3 b h2; omega, fun b h1 h2 => by have := rF b h1; have : b = w3.heap.size := h2; omega, fun b h1 h2 => by have := n3 b h1; have : b = w3.heap.size := h2; omega⟩
end Go.Proofs.YtgfmkhgdndodkaaGreatDoor
