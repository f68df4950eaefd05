/- pointsmanlaw04.DiskPlays: what it holds while it runs. -/
import Derived.Test.YtgfmkhgdndodkaaGreatDoorDkZ
namespace Go.Proofs.YtgfmkhgdndodkaaGreatDoor
open Go.RowKit

/- The zero disk, and (in a round) the operation's box and the twin of its bytes. -/
structure ZC (B gz : Nat) (W : World) : Prop where
  c : W.cell? ⟨gz, 0, none⟩ = some (.int .i64 0)
theorem ZC.comp (B gz : Nat) : Comp (ZC B gz) (fun b => b = gz) := ⟨fun h hf hn => ⟨hf.cell h.c (hn gz rfl)⟩, fun h e => by rw [e]; exact World.block_lt_of_cell? _ _ h.c⟩
structure ZT (B gz go tb c : Nat) (o : Sop) (ts : List Nat) (W : World) : Prop where
  z : ZC B gz W
  b0 : W.cell? ⟨go, 0, none⟩ = some (.int .u8 (o.k : Nat))
  b1 : W.cell? ⟨go, 1, none⟩ = some (.int .i64 o.n)
  b2 : W.cell? ⟨go, 2, none⟩ = some (.slice o.a o.xs.length o.cap)
  t : Own8 W B (.slice (some ⟨tb, 0, none⟩) (o.xs.length + 1) c) ts
def ZF (gz go tb b : Nat) : Prop := b = gz ∨ b = go ∨ b = tb
theorem own_tb {W : World} {B tb n c : Nat} {ts : List Nat} (h : Own8 W B (.slice (some ⟨tb, 0, none⟩) n c) ts) : tb < W.heap.size := (World.ownsRow.lt h tb rfl).2
theorem ZT.comp (B gz go tb c : Nat) (o : Sop) (ts : List Nat) : Comp (ZT B gz go tb c o ts) (ZF gz go tb) := by
  refine ⟨fun h hf hn => ⟨⟨hf.cell h.z.c (hn gz (.inl rfl))⟩, hf.cell h.b0 (hn go (.inr (.inl rfl))), hf.cell h.b1 (hn go (.inr (.inl rfl))), hf.cell h.b2 (hn go (.inr (.inl rfl))), h.t.fr hf (fun b e => hn b (.inr (.inr (by cases e; rfl))))⟩, fun {W b} h e => ?_⟩
  rcases e with e | e | e
  · rw [e]; exact World.block_lt_of_cell? _ _ h.z.c
  · rw [e]; exact World.block_lt_of_cell? _ _ h.b0
  · rw [e]; exact own_tb h.t
theorem Four.weak4 {w W : World} {C1 C2 C3 C4 C4' : World → Prop} {F1 F2 F3 F4 F4' : Nat → Prop} (h : Four w W C1 F1 C2 F2 C3 F3 C4 F4) (k : Comp C4' F4') (c : C4' W) (hn : ∀ b, F4' b → F4 b) : Four w W C1 F1 C2 F2 C3 F3 C4' F4' := h.step4 (Fr.refl _ W) k c (fun b e => .inl (hn b e))
section
variable {w : World} {B gd gr gb gz go tb c room n : Nat} {vd fd vr vb : Value} {s : Ds} {hs : List Hb} {o : Sop} {ts : List Nat}
/- All of it, in a round: the disk at one state, the document's at another. -/
def Al4 (w : World) (B gd gr gb gz go tb c room n : Nat) (vd fd : Value) (s : Ds) (vr : Value) (s' : Ds) (vb : Value) (hs : List Hb) (o : Sop) (ts : List Nat) (W : World) : Prop :=
  Four w W (DC B gd room vd fd s) (DF gd vd fd) (RC B gr room vr s') (DE gr vr) (fun W => Bok W B gb vb n hs) (KF gb vb hs) (ZT B gz go tb c o ts) (ZF gz go tb)
theorem Al4.d {W W' : World} {e : Ending} {r : Int × Ds} {s' : Ds} (h : Al4 w B gd gr gb gz go tb c room n vd fd s vr s' vb hs o ts W) (hd : DTo B gd room vd fd W r e W') : e = .returned (.int .i64 r.1) ∧ ∃ vd' fd', Al4 w B gd gr gb gz go tb c room n vd' fd' r.2 vr s' vb hs o ts W' := by
  obtain ⟨he, v', f', h1, h2, h3⟩ := hd
  exact ⟨he, v', f', Four.step1 h h2 (Dk.comp _ _ _ _ _ _) h1 h3⟩
theorem Al4.r {W W' : World} {e : Ending} {r : Int × Ds} {s' : Ds} (h : Al4 w B gd gr gb gz go tb c room n vd fd s vr s' vb hs o ts W) (hd : RTo B gr room vr W r e W') : e = .returned (.int .i64 r.1) ∧ ∃ vr', Al4 w B gd gr gb gz go tb c room n vd fd s vr' r.2 vb hs o ts W' := by
  obtain ⟨he, v', h1, h2, h3⟩ := hd
  exact ⟨he, v', Four.step2 h h2 (Rk.comp _ _ _ _ _) h1 h3⟩
theorem Al4.z {W : World} {s' : Ds} (h : Al4 w B gd gr gb gz go tb c room n vd fd s vr s' vb hs o ts W) : NoDk W (some ⟨gz, 0, none⟩) := .inr ⟨gz, rfl, (Four.c4 h).z.c⟩
theorem Al4.cells {W : World} {s' : Ds} (h : Al4 w B gd gr gb gz go tb c room n vd fd s vr s' vb hs o ts W) : W.cell? ⟨go, 0, none⟩ = some (.int .u8 (o.k : Nat)) ∧ W.cell? ⟨go, 1, none⟩ = some (.int .i64 o.n) ∧ W.cell? ⟨go, 2, none⟩ = some (.slice o.a o.xs.length o.cap) := ⟨(Four.c4 h).b0, (Four.c4 h).b1, (Four.c4 h).b2⟩
theorem Al4.drew {W : World} {s' : Ds} (h : Al4 w B gd gr gb gz go tb c room n vd fd s vr s' vb hs o ts W) : Al4 w B gd gr gb gz go tb c room n vd fd s vr s' vb hs o ts W.drew := Four.next h ⟨rfl, rfl, rfl, Nat.le_refl _, fun _ _ => rfl⟩
end
end Go.Proofs.YtgfmkhgdndodkaaGreatDoor
