/- Pieces of the proof: TsA, RowCo. -/
import Derived.Test.YtlipcmonlhdgfaaGreatM10
import Derived.Test.YtlipcmonlhdgfaaGreatM3
/- Code of any size as it lies; and when it is small. -/
namespace Go.Proofs.YtlipcmonlhdgfaaGreat
open Go.RowKit

def bigN : Nat := 140737488355328
structure IsO (W : World) (a : Option Addr) (l : List Int) : Prop where
  rd : RdZ W a l
  ln : l.length ≤ bigN
  ok : ∀ z ∈ l, i64R z
structure InO (W : World) (x : InL) : Prop where
  l : IsO W x.la x.v.l
  op : u8R x.v.op
  to : i64R x.v.to
  a : i64R x.v.a
  b : i64R x.v.b
  n : i64R x.v.n
  m : i64R x.v.m
  lit : NbR x.v.lit
  of : u8R x.v.of
def HdO (W : World) (x : HdL) : Prop := IsO W x.a x.l
structure LsO {α : Type} (c : Nat) (f : α → List Value) (R : World → α → Prop) (W : World) (a : Option Addr) (l : List α) : Prop where
  rd : LiR W c f a l
  ln : l.length ≤ bigN
  ok : ∀ x ∈ l, R W x
structure NdO (W : World) (x : NdL) : Prop where
  hs : IsO W x.ha x.hs
  cd : LsO 11 InL.cells InO W x.ca x.cd
  slot : i64R x.slot
  js : LsO 7 Jp.cells (fun _ => JpR) W x.ja x.js
  to : i64R x.to
structure AcO (W : World) (x : AcL) : Prop where
  nm : x.name.size ≤ bigN
  ps : IsO W x.pa x.ps
  cd : LsO 11 InL.cells InO W x.ca x.cd
structure TaO (W : World) (x : TaL) : Prop where
  nm : x.name.size ≤ bigN
  ks : IsO W x.ka x.ks
  kd : LsO 1 kdC (fun _ => u8R) W x.da x.kd
  ats : IsO W x.aa x.ats
  df : i64R x.df
  gs : LsO 3 Nb.cells (fun _ => NbR) W x.ga x.gs
  size : i64R x.size
  bf : LsO 11 InL.cells InO W x.ba x.bf
def AyO (_ : World) (x : Ay) : Prop := x.name.size ≤ bigN ∧ u8R x.kind ∧ i64R x.w
structure CoO (W : World) (x : CoL) : Prop where
  sl : IsO W x.sa x.sl
  hd : LsO 1 HdL.cells HdO W x.ha x.hd
  mt : IsO W x.ma x.mt
  st : LsO 5 NdL.cells NdO W x.ta x.st
  mn : LsO 11 InL.cells InO W x.na x.mn
  ac : LsO 3 AcL.cells AcO W x.aa x.ac
  tb : LsO 8 TaL.cells TaO W x.ba x.tb
  em : IsO W x.ea x.em
  ar : LsO 3 Ay.cells AyO W x.ra x.ar
  cap : x.mt.length ≤ x.mc
theorem IsO.below {W W' : World} {a : Option Addr} {l : List Int} (h : IsO W a l) (hb : Below W.heap.size W W') : IsO W' a l := ⟨h.rd.below hb, h.ln, h.ok⟩
theorem LsO.below {α : Type} {c : Nat} {f : α → List Value} {R : World → α → Prop} {W W' : World} {a : Option Addr} {l : List α} (h : LsO c f R W a l) (hb : Below W.heap.size W W') (hR : ∀ {W W' : World} {x : α}, R W x → Below W.heap.size W W' → R W' x) : LsO c f R W' a l := ⟨h.rd.below hb, h.ln, fun x hx => hR (h.ok x hx) hb⟩
theorem InO.below {W W' : World} {x : InL} (h : InO W x) (hb : Below W.heap.size W W') : InO W' x := ⟨h.l.below hb, h.op, h.to, h.a, h.b, h.n, h.m, h.lit, h.of⟩
theorem NdO.below {W W' : World} {x : NdL} (h : NdO W x) (hb : Below W.heap.size W W') : NdO W' x := ⟨h.hs.below hb, h.cd.below hb InO.below, h.slot, h.js.below hb (fun h _ => h), h.to⟩
theorem AcO.below {W W' : World} {x : AcL} (h : AcO W x) (hb : Below W.heap.size W W') : AcO W' x := ⟨h.nm, h.ps.below hb, h.cd.below hb InO.below⟩
theorem TaO.below {W W' : World} {x : TaL} (h : TaO W x) (hb : Below W.heap.size W W') : TaO W' x := ⟨h.nm, h.ks.below hb, h.kd.below hb (fun h _ => h), h.ats.below hb, h.df, h.gs.below hb (fun h _ => h), h.size, h.bf.below hb InO.below⟩
theorem CoO.below {W W' : World} {x : CoL} (h : CoO W x) (hb : Below W.heap.size W W') : CoO W' x := ⟨h.sl.below hb, h.hd.below hb (fun h hb => IsO.below h hb), h.mt.below hb, h.st.below hb NdO.below, h.mn.below hb InO.below, h.ac.below hb AcO.below, h.tb.below hb TaO.below, h.em.below hb, h.ar.below hb (fun h _ => h), h.cap⟩
/- Small. -/
def smL {α : Type} (sm : Nat → α → Prop) (n : Nat) (l : List α) : Prop := l.length ≤ n ∧ ∀ y ∈ l, sm n y
theorem smL.mono {α : Type} {sm : Nat → α → Prop} {n n' : Nat} {l : List α} (hl : smL sm n l) (hn : n ≤ n') (h : ∀ {n n' : Nat} {x : α}, sm n x → n ≤ n' → sm n' x) : smL sm n' l := ⟨Nat.le_trans hl.1 hn, fun y hy => h (hl.2 y hy) hn⟩
def smIns (n : Nat) (x : InL) : Prop := x.v.l.length ≤ n
def smHead (n : Nat) (x : HdL) : Prop := x.l.length ≤ n
def smNode (n : Nat) (x : NdL) : Prop := x.hs.length ≤ n ∧ smL smIns n x.cd ∧ x.js.length ≤ n
def smAct (n : Nat) (x : AcL) : Prop := x.ps.length ≤ n ∧ smL smIns n x.cd
def smTable (n : Nat) (x : TaL) : Prop := x.ks.length ≤ n ∧ x.kd.length ≤ n ∧ x.ats.length ≤ n ∧ x.gs.length ≤ n ∧ smL smIns n x.bf
def smArr (_ : Nat) (_ : Ay) : Prop := True
def smCode (n : Nat) (x : CoL) : Prop := x.sl.length ≤ n ∧ smL smHead n x.hd ∧ x.mt.length ≤ n ∧ smL smNode n x.st ∧ smL smIns n x.mn ∧ smL smAct n x.ac ∧ smL smTable n x.tb ∧ x.em.length ≤ n ∧ smL smArr n x.ar
theorem smIns.mono {n n' : Nat} {x : InL} (h : smIns n x) (hn : n ≤ n') : smIns n' x := Nat.le_trans h hn
theorem smHead.mono {n n' : Nat} {x : HdL} (h : smHead n x) (hn : n ≤ n') : smHead n' x := Nat.le_trans h hn
theorem smNode.mono {n n' : Nat} {x : NdL} (h : smNode n x) (hn : n ≤ n') : smNode n' x := ⟨Nat.le_trans h.1 hn, h.2.1.mono hn smIns.mono, Nat.le_trans h.2.2 hn⟩
theorem smAct.mono {n n' : Nat} {x : AcL} (h : smAct n x) (hn : n ≤ n') : smAct n' x := ⟨Nat.le_trans h.1 hn, h.2.mono hn smIns.mono⟩
theorem smTable.mono {n n' : Nat} {x : TaL} (h : smTable n x) (hn : n ≤ n') : smTable n' x := ⟨Nat.le_trans h.1 hn, Nat.le_trans h.2.1 hn, Nat.le_trans h.2.2.1 hn, Nat.le_trans h.2.2.2.1 hn, h.2.2.2.2.mono hn smIns.mono⟩
theorem smArr.mono {n n' : Nat} {x : Ay} (_ : smArr n x) (_ : n ≤ n') : smArr n' x := trivial
theorem IsO.sm {W : World} {a : Option Addr} {l : List Int} (h : IsO W a l) {n : Nat} (hs : l.length ≤ n) (hn : n ≤ 1000000) : IsR W a l := ⟨h.rd, by omega, h.ok⟩
theorem InO.sm {W : World} {x : InL} (h : InO W x) {n : Nat} (hs : smIns n x) (hn : n ≤ 1000000) : InR W x := ⟨h.l.rd, by unfold smIns at hs; omega, h.l.ok, h.op, h.to, h.a, h.b, h.n, h.m, h.lit, h.of⟩
theorem inso_sm {W : World} {a : Option Addr} {l : List InL} (h : LsO 11 InL.cells InO W a l) {n : Nat} (hs : smL smIns n l) (hn : n ≤ 1000000) : InsR W a l := ⟨h.rd, by have := hs.1; omega, fun x hx => (h.ok x hx).sm (hs.2 x hx) hn⟩
theorem NdO.sm {W : World} {x : NdL} (h : NdO W x) {n : Nat} (hs : smNode n x) (hn : n ≤ 1000000) : NdR W x := ⟨h.hs.sm hs.1 hn, inso_sm h.cd hs.2.1 hn, h.slot, ⟨h.js.rd, by have := hs.2.2; omega, h.js.ok⟩, h.to⟩
theorem AcO.sm {W : World} {x : AcL} (h : AcO W x) {n : Nat} (hs : smAct n x) (hn : n ≤ 1000000) : AcR W x := ⟨h.ps.sm hs.1 hn, inso_sm h.cd hs.2 hn⟩
theorem TaO.sm {W : World} {x : TaL} (h : TaO W x) {n : Nat} (hs : smTable n x) (hn : n ≤ 1000000) : TaR W x := ⟨h.ks.sm hs.1 hn, ⟨h.kd.rd, by have := hs.2.1; omega, h.kd.ok⟩, h.ats.sm hs.2.2.1 hn, h.df, ⟨nLi h.gs.rd, by have := hs.2.2.2.1; omega, h.gs.ok⟩, h.size, inso_sm h.bf hs.2.2.2.2 hn⟩
theorem CoO.sm {W : World} {x : CoL} (h : CoO W x) {n : Nat} (hs : smCode n x) (hn : n ≤ 1000000) : CoR W x := by
  obtain ⟨s1, s2, s3, s4, s5, s6, s7, s8, s9⟩ := hs
  exact ⟨h.sl.sm s1 hn, ⟨h.hd.rd, by have := s2.1; omega, fun x hx => IsO.sm (h.hd.ok x hx) (s2.2 x hx) hn⟩, h.mt.sm s3 hn, ⟨h.st.rd, by have := s4.1; omega, fun x hx => (h.st.ok x hx).sm (s4.2 x hx) hn⟩, inso_sm h.mn s5 hn, ⟨h.ac.rd, by have := s6.1; omega, fun x hx => (h.ac.ok x hx).sm (s6.2 x hx) hn⟩, ⟨h.tb.rd, by have := s7.1; omega, fun x hx => (h.tb.ok x hx).sm (s7.2 x hx) hn⟩, h.em.sm s8 hn, ⟨h.ar.rd, by have := s9.1; omega, fun x hx => (h.ar.ok x hx).2⟩⟩
end Go.Proofs.YtlipcmonlhdgfaaGreat
/- What came in, opened: flat code. -/
namespace Go.Proofs.YtlipcmonlhdgfaaGreat
open Go.ChangeShapes Go.WideShapes Go.ChangeAt Go.RowKit

variable {H : Type} {enc : TypeId × Value → H} {W : World} {base : Nat}
theorem lst1 {α : Type} {l : List α} (h : l.length = 1) : ∃ z0, l = [z0] := by
  match l, h with
  | [z0], _ => exact ⟨z0, rfl⟩
theorem lst5 {α : Type} {l : List α} (h : l.length = 5) : ∃ z0 z1 z2 z3 z4, l = [z0, z1, z2, z3, z4] := by
  match l, h with
  | [z0, z1, z2, z3, z4], _ => exact ⟨z0, z1, z2, z3, z4, rfl⟩
theorem lst8 {α : Type} {l : List α} (h : l.length = 8) : ∃ z0 z1 z2 z3 z4 z5 z6 z7, l = [z0, z1, z2, z3, z4, z5, z6, z7] := by
  match l, h with
  | [z0, z1, z2, z3, z4, z5, z6, z7], _ => exact ⟨z0, z1, z2, z3, z4, z5, z6, z7, rfl⟩
theorem lst9 {α : Type} {l : List α} (h : l.length = 9) : ∃ z0 z1 z2 z3 z4 z5 z6 z7 z8, l = [z0, z1, z2, z3, z4, z5, z6, z7, z8] := by
  match l, h with
  | [z0, z1, z2, z3, z4, z5, z6, z7, z8], _ => exact ⟨z0, z1, z2, z3, z4, z5, z6, z7, z8, rfl⟩
theorem lst11 {α : Type} {l : List α} (h : l.length = 11) : ∃ z0 z1 z2 z3 z4 z5 z6 z7 z8 z9 z10, l = [z0, z1, z2, z3, z4, z5, z6, z7, z8, z9, z10] := by
  match l, h with
  | [z0, z1, z2, z3, z4, z5, z6, z7, z8, z9, z10], _ => exact ⟨z0, z1, z2, z3, z4, z5, z6, z7, z8, z9, z10, rfl⟩
theorem cellsC0 : Tryz.prog.cellsOf 59 = 11 := by kernel_rfl
theorem cellsC1 : Tryz.prog.cellsOf 91 = 1 := by kernel_rfl
theorem cellsC2 : Tryz.prog.cellsOf 129 = 7 := by kernel_rfl
theorem cellsC3 : Tryz.prog.cellsOf 79 = 5 := by kernel_rfl
theorem cellsC4 : Tryz.prog.cellsOf 43 = 3 := by kernel_rfl
theorem cellsC5 : Tryz.prog.cellsOf 41 = 8 := by kernel_rfl
theorem cellsC6 : Tryz.prog.cellsOf 75 = 3 := by kernel_rfl
theorem cellsC7 : Tryz.prog.cellsOf 30 = 9 := by kernel_rfl
theorem cellsC8 : Tryz.prog.cellsOf 53 = 1 := by kernel_rfl
theorem cellsC9 : Tryz.prog.cellsOf 57 = 1 := by kernel_rfl
theorem cellsC10 : Tryz.prog.cellsOf 132 = 1 := by kernel_rfl
theorem cellsC11 : Tryz.prog.cellsOf 73 = 1 := by kernel_rfl
theorem cellsC12 : Tryz.prog.cellsOf 25 = 1 := by kernel_rfl
theorem cellsC13 : Tryz.prog.cellsOf 23 = 1 := by kernel_rfl
theorem cellsC14 : Tryz.prog.cellsOf 77 = 1 := by kernel_rfl
theorem cellsC15 : Tryz.prog.cellsOf 24 = 1 := by kernel_rfl
theorem cellsC16 : Tryz.prog.cellsOf 26 = 1 := by kernel_rfl
theorem cellsC17 : Tryz.prog.cellsOf 27 = 1 := by kernel_rfl
theorem cellsC18 : Tryz.prog.cellsOf 28 = 1 := by kernel_rfl
theorem cellsC19 : Tryz.prog.cellsOf 38 = 1 := by kernel_rfl
theorem bytesC0 : Tryz.prog.bytesOf 59 = 104 := by kernel_rfl
theorem bytesC1 : Tryz.prog.bytesOf 91 = 24 := by kernel_rfl
theorem bytesC2 : Tryz.prog.bytesOf 129 = 56 := by kernel_rfl
theorem bytesC3 : Tryz.prog.bytesOf 79 = 88 := by kernel_rfl
theorem bytesC4 : Tryz.prog.bytesOf 43 = 64 := by kernel_rfl
theorem bytesC5 : Tryz.prog.bytesOf 41 = 152 := by kernel_rfl
theorem bytesC6 : Tryz.prog.bytesOf 75 = 32 := by kernel_rfl
theorem bytesC7 : Tryz.prog.bytesOf 132 = 1 := by kernel_rfl
theorem str_big {s : ByteArray} {d : DataW H} (ex : d = .lit (.string s.data.toList)) (hw : ∀ n ∈ d.weights Tryz.prog 9, n ≤ reachBytes) : s.size ≤ bigN := by
  have := hw s.data.toList.length (by rw [ex]; simp only [DataW.weights]; exact List.mem_singleton.2 rfl)
  unfold reachBytes at this
  unfold bigN
  have e : s.data.toList.length = s.size := Array.length_toList
  omega
theorem open_zsC {fuel : Nat} {v : Value} {x : DataW H × List MemPlace} (h : DataW.trod enc Tryz.prog W base (fun _ => true) true fuel 22 [v] = some x) (hw : ∀ n ∈ x.1.weights Tryz.prog 22, n ≤ reachBytes) : ∃ (a : Option Addr) (cap : Nat) (l : List Int), v = .slice a l.length cap ∧ IsO W a l ∧ l.length ≤ cap := by
  obtain ⟨a, cap, l, h1, h2, h3, h4⟩ := open_list Tryz.underlying22 cellsIn (by decide) intC i64R (fun h _ => by
    obtain ⟨n, hn, _, wf⟩ := DataW.trod_int Tryz.underlying3 h
    exact ⟨n, hn, intE wf⟩) h hw
  rw [bytesIn] at h3
  exact ⟨a, cap, l, h1, ⟨zLi h2.rd, reach_le h3 (by decide), h4⟩, h2.le⟩
set_option maxRecDepth 100000 in
theorem open_in {fuel : Nat} {cs : List Value} {x : DataW H × List MemPlace} (h : DataW.trod enc Tryz.prog W base (fun _ => true) true fuel 59 cs = some x) (hw : ∀ n ∈ x.1.weights Tryz.prog 59, n ≤ reachBytes) : ∃ y : InL, cs = y.cells ∧ InO W y := by
  have hl := len_struct Tryz.underlying59 h
  rw [cellsC0] at hl
  obtain ⟨z0, z1, z2, z3, z4, z5, z6, z7, z8, z9, z10, rfl⟩ := lst11 hl
  obtain ⟨_, y0, h0, w0⟩ := field_at Tryz.underlying59 h hw 0 rfl (ft := 53) (off := 0) rfl rfl cellsC8
  obtain ⟨_, y1, h1, w1⟩ := field_at Tryz.underlying59 h hw 1 rfl (ft := 3) (off := 1) rfl rfl cellsIn
  obtain ⟨_, y2, h2, w2⟩ := field_at Tryz.underlying59 h hw 2 rfl (ft := 3) (off := 2) rfl rfl cellsIn
  obtain ⟨_, y3, h3, w3⟩ := field_at Tryz.underlying59 h hw 3 rfl (ft := 3) (off := 3) rfl rfl cellsIn
  obtain ⟨_, y4, h4, w4⟩ := field_at Tryz.underlying59 h hw 4 rfl (ft := 3) (off := 4) rfl rfl cellsIn
  obtain ⟨_, y5, h5, w5⟩ := field_at Tryz.underlying59 h hw 5 rfl (ft := 3) (off := 5) rfl rfl cellsIn
  obtain ⟨_, y6, h6, w6⟩ := field_at Tryz.underlying59 h hw 6 rfl (ft := 22) (off := 6) rfl rfl cellsSl5
  obtain ⟨_, y7, h7, w7⟩ := field_at Tryz.underlying59 h hw 7 rfl (ft := 56) (off := 7) rfl rfl cellsNb
  obtain ⟨_, y8, h8, w8⟩ := field_at Tryz.underlying59 h hw 8 rfl (ft := 57) (off := 10) rfl rfl cellsC9
  obtain ⟨op, q0, _, wf0⟩ := DataW.trod_int Tryz.underlying53 h0
  obtain ⟨to, q1, _, wf1⟩ := DataW.trod_int Tryz.underlying3 h1
  obtain ⟨a, q2, _, wf2⟩ := DataW.trod_int Tryz.underlying3 h2
  obtain ⟨b, q3, _, wf3⟩ := DataW.trod_int Tryz.underlying3 h3
  obtain ⟨n, q4, _, wf4⟩ := DataW.trod_int Tryz.underlying3 h4
  obtain ⟨m, q5, _, wf5⟩ := DataW.trod_int Tryz.underlying3 h5
  obtain ⟨la, lc, l, q6, r6, le6⟩ := open_zsC h6 w6
  obtain ⟨lit, q7, r7⟩ := open_nb h7 w7
  obtain ⟨of, q8, _, wf8⟩ := DataW.trod_int Tryz.underlying57 h8
  simp [Nb.cells] at q0 q1 q2 q3 q4 q5 q7 q8
  obtain ⟨rfl, rfl, rfl⟩ := q7
  subst q0 q1 q2 q3 q4 q5 q6 q8
  exact ⟨⟨⟨op, to, a, b, n, m, l, lit, of⟩, la, lc⟩, rfl, ⟨r6, byteE wf0, intE wf1, intE wf2, intE wf3, intE wf4, intE wf5, r7, byteE wf8⟩⟩
theorem open_ins {fuel : Nat} {v : Value} {x : DataW H × List MemPlace} (h : DataW.trod enc Tryz.prog W base (fun _ => true) true fuel 25 [v] = some x) (hw : ∀ n ∈ x.1.weights Tryz.prog 25, n ≤ reachBytes) : ∃ (a : Option Addr) (cap : Nat) (l : List InL), v = .slice a l.length cap ∧ LsO 11 InL.cells InO W a l := by
  obtain ⟨a, cap, l, h1, h2, h3, h4⟩ := open_list Tryz.underlying25 cellsC0 (by decide) InL.cells (InO W) (fun h hw => open_in h hw) h hw
  rw [bytesC0] at h3
  exact ⟨a, cap, l, h1, ⟨h2.rd, reach_le h3 (by decide), h4⟩⟩
set_option maxRecDepth 100000 in
theorem open_hd {fuel : Nat} {cs : List Value} {x : DataW H × List MemPlace} (h : DataW.trod enc Tryz.prog W base (fun _ => true) true fuel 91 cs = some x) (hw : ∀ n ∈ x.1.weights Tryz.prog 91, n ≤ reachBytes) : ∃ y : HdL, cs = y.cells ∧ HdO W y := by
  have hl := len_struct Tryz.underlying91 h
  rw [cellsC1] at hl
  obtain ⟨z0, rfl⟩ := lst1 hl
  obtain ⟨_, y0, h0, w0⟩ := field_at Tryz.underlying91 h hw 0 rfl (ft := 22) (off := 0) rfl rfl cellsSl5
  obtain ⟨la, lc, l, q0, r0, le0⟩ := open_zsC h0 w0
  subst q0
  exact ⟨⟨l, la, lc⟩, rfl, r0⟩
theorem open_hds {fuel : Nat} {v : Value} {x : DataW H × List MemPlace} (h : DataW.trod enc Tryz.prog W base (fun _ => true) true fuel 23 [v] = some x) (hw : ∀ n ∈ x.1.weights Tryz.prog 23, n ≤ reachBytes) : ∃ (a : Option Addr) (cap : Nat) (l : List HdL), v = .slice a l.length cap ∧ LsO 1 HdL.cells HdO W a l := by
  obtain ⟨a, cap, l, h1, h2, h3, h4⟩ := open_list Tryz.underlying23 cellsC1 (by decide) HdL.cells (HdO W) (fun h hw => open_hd h hw) h hw
  rw [bytesC1] at h3
  exact ⟨a, cap, l, h1, ⟨h2.rd, reach_le h3 (by decide), h4⟩⟩
set_option maxRecDepth 100000 in
theorem open_jp {fuel : Nat} {cs : List Value} {x : DataW H × List MemPlace} (h : DataW.trod enc Tryz.prog W base (fun _ => true) true fuel 129 cs = some x) (hw : ∀ n ∈ x.1.weights Tryz.prog 129, n ≤ reachBytes) : ∃ y : Jp, cs = y.cells ∧ JpR y := by
  have hl := len_struct Tryz.underlying129 h
  rw [cellsC2] at hl
  obtain ⟨z0, z1, z2, z3, z4, z5, z6, rfl⟩ := seven hl
  obtain ⟨_, y0, h0, w0⟩ := field_at Tryz.underlying129 h hw 0 rfl (ft := 56) (off := 0) rfl rfl cellsNb
  obtain ⟨_, y1, h1, w1⟩ := field_at Tryz.underlying129 h hw 1 rfl (ft := 56) (off := 3) rfl rfl cellsNb
  obtain ⟨_, y2, h2, w2⟩ := field_at Tryz.underlying129 h hw 2 rfl (ft := 3) (off := 6) rfl rfl cellsIn
  obtain ⟨v, q0, r0⟩ := open_nb h0 w0
  obtain ⟨m, q1, r1⟩ := open_nb h1 w1
  obtain ⟨to, q2, _, wf2⟩ := DataW.trod_int Tryz.underlying3 h2
  simp [Nb.cells] at q0 q1 q2
  obtain ⟨rfl, rfl, rfl⟩ := q0
  obtain ⟨rfl, rfl, rfl⟩ := q1
  subst q2
  exact ⟨⟨v, m, to⟩, rfl, ⟨r0, r1, intE wf2⟩⟩
theorem open_jps {fuel : Nat} {v : Value} {x : DataW H × List MemPlace} (h : DataW.trod enc Tryz.prog W base (fun _ => true) true fuel 77 [v] = some x) (hw : ∀ n ∈ x.1.weights Tryz.prog 77, n ≤ reachBytes) : ∃ (a : Option Addr) (cap : Nat) (l : List Jp), v = .slice a l.length cap ∧ LsO 7 Jp.cells (fun _ => JpR) W a l := by
  obtain ⟨a, cap, l, h1, h2, h3, h4⟩ := open_list Tryz.underlying77 cellsC2 (by decide) Jp.cells ((fun _ => JpR) W) (fun h hw => open_jp h hw) h hw
  rw [bytesC2] at h3
  exact ⟨a, cap, l, h1, ⟨h2.rd, reach_le h3 (by decide), h4⟩⟩
set_option maxRecDepth 100000 in
theorem open_nd {fuel : Nat} {cs : List Value} {x : DataW H × List MemPlace} (h : DataW.trod enc Tryz.prog W base (fun _ => true) true fuel 79 cs = some x) (hw : ∀ n ∈ x.1.weights Tryz.prog 79, n ≤ reachBytes) : ∃ y : NdL, cs = y.cells ∧ NdO W y := by
  have hl := len_struct Tryz.underlying79 h
  rw [cellsC3] at hl
  obtain ⟨z0, z1, z2, z3, z4, rfl⟩ := lst5 hl
  obtain ⟨_, y0, h0, w0⟩ := field_at Tryz.underlying79 h hw 0 rfl (ft := 22) (off := 0) rfl rfl cellsSl5
  obtain ⟨_, y1, h1, w1⟩ := field_at Tryz.underlying79 h hw 1 rfl (ft := 25) (off := 1) rfl rfl cellsC12
  obtain ⟨_, y2, h2, w2⟩ := field_at Tryz.underlying79 h hw 2 rfl (ft := 3) (off := 2) rfl rfl cellsIn
  obtain ⟨_, y3, h3, w3⟩ := field_at Tryz.underlying79 h hw 3 rfl (ft := 77) (off := 3) rfl rfl cellsC14
  obtain ⟨_, y4, h4, w4⟩ := field_at Tryz.underlying79 h hw 4 rfl (ft := 3) (off := 4) rfl rfl cellsIn
  obtain ⟨hsa, hsc, hs, q0, r0, le0⟩ := open_zsC h0 w0
  obtain ⟨cda, cdc, cd, q1, r1⟩ := open_ins h1 w1
  obtain ⟨slot, q2, _, wf2⟩ := DataW.trod_int Tryz.underlying3 h2
  obtain ⟨jsa, jsc, js, q3, r3⟩ := open_jps h3 w3
  obtain ⟨to, q4, _, wf4⟩ := DataW.trod_int Tryz.underlying3 h4
  simp at q2 q4
  subst q0 q1 q2 q3 q4
  exact ⟨⟨hs, hsa, hsc, cd, cda, cdc, slot, js, jsa, jsc, to⟩, rfl, ⟨r0, r1, intE wf2, r3, intE wf4⟩⟩
theorem open_nds {fuel : Nat} {v : Value} {x : DataW H × List MemPlace} (h : DataW.trod enc Tryz.prog W base (fun _ => true) true fuel 24 [v] = some x) (hw : ∀ n ∈ x.1.weights Tryz.prog 24, n ≤ reachBytes) : ∃ (a : Option Addr) (cap : Nat) (l : List NdL), v = .slice a l.length cap ∧ LsO 5 NdL.cells NdO W a l := by
  obtain ⟨a, cap, l, h1, h2, h3, h4⟩ := open_list Tryz.underlying24 cellsC3 (by decide) NdL.cells (NdO W) (fun h hw => open_nd h hw) h hw
  rw [bytesC3] at h3
  exact ⟨a, cap, l, h1, ⟨h2.rd, reach_le h3 (by decide), h4⟩⟩
set_option maxRecDepth 100000 in
theorem open_ac {fuel : Nat} {cs : List Value} {x : DataW H × List MemPlace} (h : DataW.trod enc Tryz.prog W base (fun _ => true) true fuel 43 cs = some x) (hw : ∀ n ∈ x.1.weights Tryz.prog 43, n ≤ reachBytes) : ∃ y : AcL, cs = y.cells ∧ AcO W y := by
  have hl := len_struct Tryz.underlying43 h
  rw [cellsC4] at hl
  obtain ⟨z0, z1, z2, rfl⟩ := three hl
  obtain ⟨_, y0, h0, w0⟩ := field_at Tryz.underlying43 h hw 0 rfl (ft := 9) (off := 0) rfl rfl cellsSt
  obtain ⟨_, y1, h1, w1⟩ := field_at Tryz.underlying43 h hw 1 rfl (ft := 22) (off := 1) rfl rfl cellsSl5
  obtain ⟨_, y2, h2, w2⟩ := field_at Tryz.underlying43 h hw 2 rfl (ft := 25) (off := 2) rfl rfl cellsC12
  obtain ⟨name, q0, ex0, _⟩ := DataW.trod_string Tryz.underlying9 h0
  have hs0 := str_big (congrArg Prod.fst ex0) w0
  obtain ⟨psa, psc, ps, q1, r1, le1⟩ := open_zsC h1 w1
  obtain ⟨cda, cdc, cd, q2, r2⟩ := open_ins h2 w2
  simp at q0
  subst q0 q1 q2
  exact ⟨⟨name, ps, psa, psc, cd, cda, cdc⟩, rfl, ⟨hs0, r1, r2⟩⟩
theorem open_acs {fuel : Nat} {v : Value} {x : DataW H × List MemPlace} (h : DataW.trod enc Tryz.prog W base (fun _ => true) true fuel 26 [v] = some x) (hw : ∀ n ∈ x.1.weights Tryz.prog 26, n ≤ reachBytes) : ∃ (a : Option Addr) (cap : Nat) (l : List AcL), v = .slice a l.length cap ∧ LsO 3 AcL.cells AcO W a l := by
  obtain ⟨a, cap, l, h1, h2, h3, h4⟩ := open_list Tryz.underlying26 cellsC4 (by decide) AcL.cells (AcO W) (fun h hw => open_ac h hw) h hw
  rw [bytesC4] at h3
  exact ⟨a, cap, l, h1, ⟨h2.rd, reach_le h3 (by decide), h4⟩⟩
theorem open_kds {fuel : Nat} {v : Value} {x : DataW H × List MemPlace} (h : DataW.trod enc Tryz.prog W base (fun _ => true) true fuel 38 [v] = some x) (hw : ∀ n ∈ x.1.weights Tryz.prog 38, n ≤ reachBytes) : ∃ (a : Option Addr) (cap : Nat) (l : List Int), v = .slice a l.length cap ∧ LsO 1 kdC (fun _ => u8R) W a l := by
  obtain ⟨a, cap, l, h1, h2, h3, h4⟩ := open_list Tryz.underlying38 cellsC10 (by decide) kdC ((fun _ => u8R) W) (fun h hw => by
    obtain ⟨n, hn, _, wf⟩ := DataW.trod_int Tryz.underlying132 h
    exact ⟨n, hn, byteE wf⟩) h hw
  rw [bytesC7] at h3
  exact ⟨a, cap, l, h1, ⟨h2.rd, reach_le h3 (by decide), h4⟩⟩
theorem open_nbsC {fuel : Nat} {v : Value} {x : DataW H × List MemPlace} (h : DataW.trod enc Tryz.prog W base (fun _ => true) true fuel 39 [v] = some x) (hw : ∀ n ∈ x.1.weights Tryz.prog 39, n ≤ reachBytes) : ∃ (a : Option Addr) (cap : Nat) (l : List Nb), v = .slice a l.length cap ∧ LsO 3 Nb.cells (fun _ => NbR) W a l := by
  obtain ⟨a, cap, l, h1, h2, h3, h4⟩ := open_list Tryz.underlying39 cellsNb (by decide) Nb.cells ((fun _ => NbR) W) (fun h hw => open_nb h hw) h hw
  rw [bytesNb] at h3
  exact ⟨a, cap, l, h1, ⟨h2.rd, reach_le h3 (by decide), h4⟩⟩
set_option maxRecDepth 100000 in
theorem open_ta {fuel : Nat} {cs : List Value} {x : DataW H × List MemPlace} (h : DataW.trod enc Tryz.prog W base (fun _ => true) true fuel 41 cs = some x) (hw : ∀ n ∈ x.1.weights Tryz.prog 41, n ≤ reachBytes) : ∃ y : TaL, cs = y.cells ∧ TaO W y := by
  have hl := len_struct Tryz.underlying41 h
  rw [cellsC5] at hl
  obtain ⟨z0, z1, z2, z3, z4, z5, z6, z7, rfl⟩ := lst8 hl
  obtain ⟨_, y0, h0, w0⟩ := field_at Tryz.underlying41 h hw 0 rfl (ft := 9) (off := 0) rfl rfl cellsSt
  obtain ⟨_, y1, h1, w1⟩ := field_at Tryz.underlying41 h hw 1 rfl (ft := 22) (off := 1) rfl rfl cellsSl5
  obtain ⟨_, y2, h2, w2⟩ := field_at Tryz.underlying41 h hw 2 rfl (ft := 38) (off := 2) rfl rfl cellsC19
  obtain ⟨_, y3, h3, w3⟩ := field_at Tryz.underlying41 h hw 3 rfl (ft := 22) (off := 3) rfl rfl cellsSl5
  obtain ⟨_, y4, h4, w4⟩ := field_at Tryz.underlying41 h hw 4 rfl (ft := 3) (off := 4) rfl rfl cellsIn
  obtain ⟨_, y5, h5, w5⟩ := field_at Tryz.underlying41 h hw 5 rfl (ft := 39) (off := 5) rfl rfl cellsSl2
  obtain ⟨_, y6, h6, w6⟩ := field_at Tryz.underlying41 h hw 6 rfl (ft := 3) (off := 6) rfl rfl cellsIn
  obtain ⟨_, y7, h7, w7⟩ := field_at Tryz.underlying41 h hw 7 rfl (ft := 25) (off := 7) rfl rfl cellsC12
  obtain ⟨name, q0, ex0, _⟩ := DataW.trod_string Tryz.underlying9 h0
  have hs0 := str_big (congrArg Prod.fst ex0) w0
  obtain ⟨ksa, ksc, ks, q1, r1, le1⟩ := open_zsC h1 w1
  obtain ⟨kda, kdc, kd, q2, r2⟩ := open_kds h2 w2
  obtain ⟨atsa, atsc, ats, q3, r3, le3⟩ := open_zsC h3 w3
  obtain ⟨df, q4, _, wf4⟩ := DataW.trod_int Tryz.underlying3 h4
  obtain ⟨gsa, gsc, gs, q5, r5⟩ := open_nbsC h5 w5
  obtain ⟨size, q6, _, wf6⟩ := DataW.trod_int Tryz.underlying3 h6
  obtain ⟨bfa, bfc, bf, q7, r7⟩ := open_ins h7 w7
  simp at q0 q4 q6
  subst q0 q1 q2 q3 q4 q5 q6 q7
  exact ⟨⟨name, ks, ksa, ksc, kd, kda, kdc, ats, atsa, atsc, df, gs, gsa, gsc, size, bf, bfa, bfc⟩, rfl, ⟨hs0, r1, r2, r3, intE wf4, r5, intE wf6, r7⟩⟩
theorem open_tas {fuel : Nat} {v : Value} {x : DataW H × List MemPlace} (h : DataW.trod enc Tryz.prog W base (fun _ => true) true fuel 27 [v] = some x) (hw : ∀ n ∈ x.1.weights Tryz.prog 27, n ≤ reachBytes) : ∃ (a : Option Addr) (cap : Nat) (l : List TaL), v = .slice a l.length cap ∧ LsO 8 TaL.cells TaO W a l := by
  obtain ⟨a, cap, l, h1, h2, h3, h4⟩ := open_list Tryz.underlying27 cellsC5 (by decide) TaL.cells (TaO W) (fun h hw => open_ta h hw) h hw
  rw [bytesC5] at h3
  exact ⟨a, cap, l, h1, ⟨h2.rd, reach_le h3 (by decide), h4⟩⟩
set_option maxRecDepth 100000 in
theorem open_ay {fuel : Nat} {cs : List Value} {x : DataW H × List MemPlace} (h : DataW.trod enc Tryz.prog W base (fun _ => true) true fuel 75 cs = some x) (hw : ∀ n ∈ x.1.weights Tryz.prog 75, n ≤ reachBytes) : ∃ y : Ay, cs = y.cells ∧ AyO W y := by
  have hl := len_struct Tryz.underlying75 h
  rw [cellsC6] at hl
  obtain ⟨z0, z1, z2, rfl⟩ := three hl
  obtain ⟨_, y0, h0, w0⟩ := field_at Tryz.underlying75 h hw 0 rfl (ft := 9) (off := 0) rfl rfl cellsSt
  obtain ⟨_, y1, h1, w1⟩ := field_at Tryz.underlying75 h hw 1 rfl (ft := 73) (off := 1) rfl rfl cellsC11
  obtain ⟨_, y2, h2, w2⟩ := field_at Tryz.underlying75 h hw 2 rfl (ft := 3) (off := 2) rfl rfl cellsIn
  obtain ⟨name, q0, ex0, _⟩ := DataW.trod_string Tryz.underlying9 h0
  have hs0 := str_big (congrArg Prod.fst ex0) w0
  obtain ⟨kind, q1, _, wf1⟩ := DataW.trod_int Tryz.underlying73 h1
  obtain ⟨n, q2, _, wf2⟩ := DataW.trod_int Tryz.underlying3 h2
  simp at q0 q1 q2
  subst q0 q1 q2
  exact ⟨⟨name, kind, n⟩, rfl, ⟨hs0, byteE wf1, intE wf2⟩⟩
theorem open_ays {fuel : Nat} {v : Value} {x : DataW H × List MemPlace} (h : DataW.trod enc Tryz.prog W base (fun _ => true) true fuel 28 [v] = some x) (hw : ∀ n ∈ x.1.weights Tryz.prog 28, n ≤ reachBytes) : ∃ (a : Option Addr) (cap : Nat) (l : List Ay), v = .slice a l.length cap ∧ LsO 3 Ay.cells AyO W a l := by
  obtain ⟨a, cap, l, h1, h2, h3, h4⟩ := open_list Tryz.underlying28 cellsC6 (by decide) Ay.cells (AyO W) (fun h hw => open_ay h hw) h hw
  rw [bytesC6] at h3
  exact ⟨a, cap, l, h1, ⟨h2.rd, reach_le h3 (by decide), h4⟩⟩
set_option maxRecDepth 100000 in
theorem open_co {fuel : Nat} {cs : List Value} {x : DataW H × List MemPlace} (h : DataW.trod enc Tryz.prog W base (fun _ => true) true fuel 30 cs = some x) (hw : ∀ n ∈ x.1.weights Tryz.prog 30, n ≤ reachBytes) : ∃ y : CoL, cs = y.cells ∧ CoO W y := by
  have hl := len_struct Tryz.underlying30 h
  rw [cellsC7] at hl
  obtain ⟨z0, z1, z2, z3, z4, z5, z6, z7, z8, rfl⟩ := lst9 hl
  obtain ⟨_, y0, h0, w0⟩ := field_at Tryz.underlying30 h hw 0 rfl (ft := 22) (off := 0) rfl rfl cellsSl5
  obtain ⟨_, y1, h1, w1⟩ := field_at Tryz.underlying30 h hw 1 rfl (ft := 23) (off := 1) rfl rfl cellsC13
  obtain ⟨_, y2, h2, w2⟩ := field_at Tryz.underlying30 h hw 2 rfl (ft := 22) (off := 2) rfl rfl cellsSl5
  obtain ⟨_, y3, h3, w3⟩ := field_at Tryz.underlying30 h hw 3 rfl (ft := 24) (off := 3) rfl rfl cellsC15
  obtain ⟨_, y4, h4, w4⟩ := field_at Tryz.underlying30 h hw 4 rfl (ft := 25) (off := 4) rfl rfl cellsC12
  obtain ⟨_, y5, h5, w5⟩ := field_at Tryz.underlying30 h hw 5 rfl (ft := 26) (off := 5) rfl rfl cellsC16
  obtain ⟨_, y6, h6, w6⟩ := field_at Tryz.underlying30 h hw 6 rfl (ft := 27) (off := 6) rfl rfl cellsC17
  obtain ⟨_, y7, h7, w7⟩ := field_at Tryz.underlying30 h hw 7 rfl (ft := 22) (off := 7) rfl rfl cellsSl5
  obtain ⟨_, y8, h8, w8⟩ := field_at Tryz.underlying30 h hw 8 rfl (ft := 28) (off := 8) rfl rfl cellsC18
  obtain ⟨sla, slc, sl, q0, r0, le0⟩ := open_zsC h0 w0
  obtain ⟨hda, hdc, hd, q1, r1⟩ := open_hds h1 w1
  obtain ⟨mta, mtc, mt, q2, r2, le2⟩ := open_zsC h2 w2
  obtain ⟨sta, stc, st, q3, r3⟩ := open_nds h3 w3
  obtain ⟨mna, mnc, mn, q4, r4⟩ := open_ins h4 w4
  obtain ⟨aca, acc, ac, q5, r5⟩ := open_acs h5 w5
  obtain ⟨tba, tbc, tb, q6, r6⟩ := open_tas h6 w6
  obtain ⟨ema, emc, em, q7, r7, le7⟩ := open_zsC h7 w7
  obtain ⟨ara, arc, ar, q8, r8⟩ := open_ays h8 w8
  subst q0 q1 q2 q3 q4 q5 q6 q7 q8
  exact ⟨⟨sl, sla, slc, hd, hda, hdc, mt, mta, mtc, st, sta, stc, mn, mna, mnc, ac, aca, acc, tb, tba, tbc, em, ema, emc, ar, ara, arc⟩, rfl, ⟨r0, r1, r2, r3, r4, r5, r6, r7, r8, le2⟩⟩
end Go.Proofs.YtlipcmonlhdgfaaGreat
