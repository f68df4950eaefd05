/- Pieces of the proof: RowQc. -/
import Derived.Test.YtclhmggnkhnnlaaGreatDoorM1
import Derived.Test.YtclhmggnkhnnlaaGreatDoorM2
import Derived.Test.YtclhmggnkhnnlaaGreatDoorM49
import Derived.Deep.Strs
/- What came in, opened: groups; a pass. -/
namespace Go.Proofs.YtclhmggnkhnnlaaGreatDoor
open Go.ChangeShapes Go.WideShapes Go.ChangeAt Go.RowKit

variable {H : Type} {enc : TypeId × Value → H} {W : World} {base : Nat}
theorem open_field {t : TypeId} {fs : Array Field} (ht : Tryz.prog.underlying t = some (.struct fs)) {fuel : Nat} {cs : List Value} {x : DataW H × List MemPlace} (h : DataW.trod enc Tryz.prog W base (fun _ => true) true fuel t cs = some x) (hw : ∀ n ∈ x.1.weights Tryz.prog t, n ≤ reachBytes) (i : Nat) (f : Field) (hf : fs[i]? = some f) :
    ∃ (m : Nat) (y : DataW H × List MemPlace), DataW.trod enc Tryz.prog W base (fun _ => true) true m f.type ((cs.drop f.offset).take (Tryz.prog.cellsOf f.type)) = some y ∧ ∀ n ∈ y.1.weights Tryz.prog f.type, n ≤ reachBytes := by
  obtain ⟨xs, m, _, hx, _, hl, hxs⟩ := DataW.trod_struct ht h
  have hi : i < xs.length := by rw [hl]; exact (Array.getElem?_eq_some_iff.1 hf).1
  have h1 := hxs i f hf
  rw [List.getElem?_eq_getElem hi] at h1
  refine ⟨m, xs[i], h1, fun n hn => hw n ?_⟩
  rw [hx, DataW.weights, ht]
  refine DataW.weights_mem_each (j := i) (t := f.type) (d := xs[i].1) ?_ ?_ n hn
  · rw [List.getElem?_map, Array.getElem?_toList, hf]; rfl
  · rw [List.getElem?_map, List.getElem?_eq_getElem hi]; rfl
theorem field_at {t : TypeId} {fs : Array Field} (ht : Tryz.prog.underlying t = some (.struct fs)) {fuel : Nat} {cs : List Value} {x : DataW H × List MemPlace} (h : DataW.trod enc Tryz.prog W base (fun _ => true) true fuel t cs = some x) (hw : ∀ n ∈ x.1.weights Tryz.prog t, n ≤ reachBytes) (i : Nat) {f : Field} (hf : fs[i]? = some f) {ft : TypeId} {off c : Nat} (e1 : f.type = ft) (e2 : f.offset = off) (e3 : Tryz.prog.cellsOf ft = c) :
    ∃ (m : Nat) (y : DataW H × List MemPlace), DataW.trod enc Tryz.prog W base (fun _ => true) true m ft ((cs.drop off).take c) = some y ∧ ∀ n ∈ y.1.weights Tryz.prog ft, n ≤ reachBytes := by
  subst e1 e2 e3
  exact open_field ht h hw i f hf
theorem len_struct {t : TypeId} {fs : Array Field} (ht : Tryz.prog.underlying t = some (.struct fs)) {fuel : Nat} {cs : List Value} {x : DataW H × List MemPlace} (h : DataW.trod enc Tryz.prog W base (fun _ => true) true fuel t cs = some x) : cs.length = Tryz.prog.cellsOf t := by
  obtain ⟨xs, m, _, hx, hl, _, hxs⟩ := DataW.trod_struct ht h
  exact hl
/- One list of bytes, off a cell; as long as memory lets it be. -/
set_option maxRecDepth 100000 in
theorem open_itR {H : Type} {enc : TypeId × Value → H} {W : World} {base fuel : Nat} {v : Value} {x : DataW H × List MemPlace} (h : DataW.trod enc Tryz.prog W base (fun _ => true) true fuel 24 [v] = some x) (hw : ∀ n ∈ x.1.weights Tryz.prog 24, n ≤ reachBytes) :
    ∃ it : It, v = .slice it.a it.xs.length it.cap ∧ ItOk W it ∧ it.xs.length ≤ 140737488351232 := by
  obtain ⟨it, h1, h2, h3, _⟩ := open_it h hw
  refine ⟨it, h1, h2, ?_⟩
  rcases open_ints Tryz.underlying24 Tryz.underlying5 cellsB8 h with ⟨hcs, _⟩ | ⟨a, len, cap, zs, hcs, _, hl, _, hzl, hx, hc, hwf⟩
  · simp at hcs
    rw [h1] at hcs
    injection hcs with _ hcs _
    omega
  · simp at hcs
    rw [h1] at hcs
    injection hcs with _ hcs _
    have hzl' : zs.length = cap := by simpa using hzl
    have := hw (((lits .u8 (zs.take len) : List (DataW H)).length + (lits .u8 (zs.drop len) : List (DataW H)).length) * Tryz.prog.bytesOf 5) (by rw [hx, DataW.weights, Tryz.underlying24]; exact List.mem_cons_self ..)
    rw [bytes8] at this
    simp [lits] at this
    unfold reachBytes at this
    omega
set_option maxRecDepth 100000 in
theorem trod_bool1 {H : Type} {enc : TypeId × Value → H} {W : World} {base fuel : Nat} {v : Value} {x : DataW H × List MemPlace} (h : DataW.trod enc Tryz.prog W base (fun _ => true) true fuel 4 [v] = some x) : ∃ b, v = .bool b := by
  cases fuel with
  | zero => simp [DataW.trod] at h
  | succ n =>
    simp only [DataW.trod, Tryz.underlying4] at h
    cases v with
    | bool b => exact ⟨b, rfl⟩
    | _ => simp at h
theorem three {α : Type} {l : List α} (h : l.length = 3) : ∃ a b c, l = [a, b, c] := by
  rcases l with _ | ⟨a, _ | ⟨b, _ | ⟨c, _ | ⟨d, r⟩⟩⟩⟩
  · cases h
  · cases h
  · cases h
  · exact ⟨a, b, c, rfl⟩
  · simp at h
theorem four {α : Type} {l : List α} (h : l.length = 4) : ∃ a b c d, l = [a, b, c, d] := by
  rcases l with _ | ⟨a, l⟩
  · cases h
  · obtain ⟨b, c, d, rfl⟩ := three (l := l) (by simpa using h)
    exact ⟨a, b, c, d, rfl⟩
theorem cellsNb : Tryz.prog.cellsOf 92 = 3 := by kernel_rfl
theorem cellsIn : Tryz.prog.cellsOf 3 = 1 := by kernel_rfl
theorem cellsUl : Tryz.prog.cellsOf 90 = 1 := by kernel_rfl
theorem cellsSt : Tryz.prog.cellsOf 9 = 1 := by kernel_rfl
theorem cellsBo : Tryz.prog.cellsOf 4 = 1 := by kernel_rfl
theorem cellsEk : Tryz.prog.cellsOf 89 = 1 := by kernel_rfl
theorem cellsEn : Tryz.prog.cellsOf 23 = 1 := by kernel_rfl
theorem cellsSl2 : Tryz.prog.cellsOf 93 = 1 := by kernel_rfl
theorem cellsSl5 : Tryz.prog.cellsOf 28 = 1 := by kernel_rfl
theorem cellsSl6 : Tryz.prog.cellsOf 25 = 1 := by kernel_rfl
theorem cellsSl7 : Tryz.prog.cellsOf 24 = 1 := by kernel_rfl
theorem cellsEf : Tryz.prog.cellsOf 95 = 10 := by kernel_rfl
theorem cellsGp : Tryz.prog.cellsOf 30 = 1 := by kernel_rfl
theorem cellsPs : Tryz.prog.cellsOf 27 = 6 := by kernel_rfl
theorem bytesNb : Tryz.prog.bytesOf 92 = 24 := by kernel_rfl
theorem bytesIn : Tryz.prog.bytesOf 3 = 8 := by kernel_rfl
theorem bytesEf : Tryz.prog.bytesOf 95 = 112 := by kernel_rfl
theorem bytesGp : Tryz.prog.bytesOf 30 = 24 := by kernel_rfl
theorem reach_le {n k : Nat} (h : n * k ≤ reachBytes) (hk : 0 < k) : n ≤ 140737488355328 := by
  have h1 : n ≤ n * k := Nat.le_mul_of_pos_right n hk
  unfold reachBytes at h
  omega
theorem six {α : Type} {l : List α} (h : l.length = 6) : ∃ a b c d e f, l = [a, b, c, d, e, f] := by
  rcases l with _ | ⟨a, _ | ⟨b, _ | ⟨c, l⟩⟩⟩
  · cases h
  · cases h
  · cases h
  · obtain ⟨d, e, f, rfl⟩ := three (l := l) (by simpa using h)
    exact ⟨a, b, c, d, e, f, rfl⟩
theorem ten {α : Type} {l : List α} (h : l.length = 10) : ∃ a b c d e f g i j k, l = [a, b, c, d, e, f, g, i, j, k] := by
  rcases l with _ | ⟨a, _ | ⟨b, _ | ⟨c, _ | ⟨d, l⟩⟩⟩⟩
  · cases h
  · cases h
  · cases h
  · cases h
  · obtain ⟨e, f, g, i, j, k, rfl⟩ := six (l := l) (by simpa using h)
    exact ⟨a, b, c, d, e, f, g, i, j, k, rfl⟩
set_option maxRecDepth 100000 in
theorem open_nb {fuel : Nat} {cs : List Value} {x : DataW H × List MemPlace} (h : DataW.trod enc Tryz.prog W base (fun _ => true) true fuel 92 cs = some x) (hw : ∀ n ∈ x.1.weights Tryz.prog 92, n ≤ reachBytes) : ∃ y : Nb, cs = y.cells ∧ True := by
  have hl := len_struct Tryz.underlying92 h
  rw [cellsNb] at hl
  obtain ⟨a, b, c, rfl⟩ := three hl
  obtain ⟨_, y0, h0, _⟩ := field_at Tryz.underlying92 h hw 0 rfl (ft := 3) (off := 0) rfl rfl cellsIn
  obtain ⟨_, y1, h1, _⟩ := field_at Tryz.underlying92 h hw 1 rfl (ft := 90) (off := 1) rfl rfl cellsUl
  obtain ⟨_, y2, h2, _⟩ := field_at Tryz.underlying92 h hw 2 rfl (ft := 90) (off := 2) rfl rfl cellsUl
  obtain ⟨p, q0, _, w0⟩ := DataW.trod_int Tryz.underlying3 h0
  obtain ⟨q, q1, _, w1⟩ := DataW.trod_int Tryz.underlying90 h1
  obtain ⟨r, q2, _, w2⟩ := DataW.trod_int Tryz.underlying90 h2
  simp at q0 q1 q2
  subst q0 q1 q2
  exact ⟨⟨p, q, r⟩, rfl, trivial⟩
theorem rdN_of {a : Option Addr} {cap : Nat} {l : List Nb} (h : LiE W 3 Nb.cells a cap l) : RdN W a l := by
  rcases h.rd with h | ⟨p, off, e, hp, hc⟩
  · exact .inl h
  · exact .inr ⟨p, off, e, hp, fun i hi => ⟨hc i hi 0 _ rfl, hc i hi 1 _ rfl, hc i hi 2 _ rfl⟩⟩
theorem open_nbs {fuel : Nat} {v : Value} {x : DataW H × List MemPlace} (h : DataW.trod enc Tryz.prog W base (fun _ => true) true fuel 93 [v] = some x) (hw : ∀ n ∈ x.1.weights Tryz.prog 93, n ≤ reachBytes) : ∃ (a : Option Addr) (cap : Nat) (l : List Nb), v = .slice a l.length cap ∧ RdN W a l ∧ l.length ≤ 140737488355328 := by
  obtain ⟨a, cap, l, h1, h2, h3, h4⟩ := open_list Tryz.underlying93 cellsNb (by decide) Nb.cells (fun _ => True) (fun h hw => open_nb h hw) h hw
  rw [bytesNb] at h3
  exact ⟨a, cap, l, h1, rdN_of h2, reach_le h3 (by decide)⟩
theorem open_z {fuel : Nat} {cs : List Value} {x : DataW H × List MemPlace} (h : DataW.trod enc Tryz.prog W base (fun _ => true) true fuel 3 cs = some x) (_ : ∀ n ∈ x.1.weights Tryz.prog 3, n ≤ reachBytes) : ∃ y : Int, cs = intC y ∧ True := by
  obtain ⟨p, q0, _, _⟩ := DataW.trod_int Tryz.underlying3 h
  exact ⟨p, q0, trivial⟩
theorem open_zs {fuel : Nat} {v : Value} {x : DataW H × List MemPlace} (h : DataW.trod enc Tryz.prog W base (fun _ => true) true fuel 28 [v] = some x) (hw : ∀ n ∈ x.1.weights Tryz.prog 28, n ≤ reachBytes) : ∃ (a : Option Addr) (cap : Nat) (l : List Int), v = .slice a l.length cap ∧ RdZ W a l ∧ l.length ≤ 140737488355328 := by
  obtain ⟨a, cap, l, h1, h2, h3, h4⟩ := open_list Tryz.underlying28 cellsIn (by decide) intC (fun _ => True) (fun h hw => open_z h hw) h hw
  rw [bytesIn] at h3
  refine ⟨a, cap, l, h1, ?_, reach_le h3 (by decide)⟩
  rcases h2.rd with h | ⟨p, off, e, hp, hc⟩
  · exact .inl h
  · exact .inr ⟨p, off, e, hp, fun i hi => by have := hc i hi 0 _ rfl; rwa [Nat.mul_one, Nat.add_zero] at this⟩
theorem open_gp {fuel : Nat} {cs : List Value} {x : DataW H × List MemPlace} (h : DataW.trod enc Tryz.prog W base (fun _ => true) true fuel 30 cs = some x) (hw : ∀ n ∈ x.1.weights Tryz.prog 30, n ≤ reachBytes) : ∃ y : Gp, cs = y.cells ∧ (RdZ W y.a y.ps ∧ y.ps.length ≤ 140737488355328) := by
  have hl := len_struct Tryz.underlying30 h
  rw [cellsGp] at hl
  obtain ⟨a, rfl⟩ := List.length_eq_one_iff.1 hl
  obtain ⟨_, y0, h0, w0⟩ := field_at Tryz.underlying30 h hw 0 rfl (ft := 28) (off := 0) rfl rfl cellsSl5
  obtain ⟨za, zc, zs, e0, r0, b0⟩ := open_zs h0 w0
  subst e0
  exact ⟨⟨za, zc, zs⟩, rfl, r0, b0⟩
theorem open_gps {fuel : Nat} {v : Value} {x : DataW H × List MemPlace} (h : DataW.trod enc Tryz.prog W base (fun _ => true) true fuel 22 [v] = some x) (hw : ∀ n ∈ x.1.weights Tryz.prog 22, n ≤ reachBytes) : ∃ (a : Option Addr) (cap : Nat) (l : List Gp), v = .slice a l.length cap ∧ RdG Gp.cells 1 W a l ∧ l.length ≤ 140737488355328 ∧ ∀ y ∈ l, RdZ W y.a y.ps ∧ y.ps.length ≤ 140737488355328 := by
  obtain ⟨a, cap, l, h1, h2, h3, h4⟩ := open_list Tryz.underlying22 cellsGp (by decide) Gp.cells (fun y => RdZ W y.a y.ps ∧ y.ps.length ≤ 140737488355328) (fun h hw => open_gp h hw) h hw
  rw [bytesGp] at h3
  exact ⟨a, cap, l, h1, h2.rd, reach_le h3 (by decide), h4⟩
def EfO (W : World) (y : Ef) : Prop := EfB y ∧ ∃ d : List Nb, y.dn = d.length ∧ RdN W y.da d
theorem str_le {s : ByteArray} {d : DataW H} (ex : d = .lit (.string s.data.toList)) (hw : ∀ n ∈ d.weights Tryz.prog 9, n ≤ reachBytes) : s.size ≤ 140737488355328 := by
  have := hw s.data.toList.length (by rw [ex]; simp only [DataW.weights]; exact List.mem_singleton.2 rfl)
  unfold reachBytes at this
  have e : s.data.toList.length = s.size := Array.length_toList
  omega
set_option maxRecDepth 100000 in
theorem open_ef {fuel : Nat} {cs : List Value} {x : DataW H × List MemPlace} (h : DataW.trod enc Tryz.prog W base (fun _ => true) true fuel 95 cs = some x) (hw : ∀ n ∈ x.1.weights Tryz.prog 95, n ≤ reachBytes) : ∃ y : Ef, cs = y.cells ∧ EfO W y := by
  have hl := len_struct Tryz.underlying95 h
  rw [cellsEf] at hl
  obtain ⟨a, b, c, d, e, f, g, i, j, k, rfl⟩ := ten hl
  obtain ⟨_, y0, h0, _⟩ := field_at Tryz.underlying95 h hw 0 rfl (ft := 89) (off := 0) rfl rfl cellsEk
  obtain ⟨_, y1, h1, w1⟩ := field_at Tryz.underlying95 h hw 1 rfl (ft := 9) (off := 1) rfl rfl cellsSt
  obtain ⟨_, y2, h2, _⟩ := field_at Tryz.underlying95 h hw 2 rfl (ft := 3) (off := 2) rfl rfl cellsIn
  obtain ⟨_, y3, h3, w3⟩ := field_at Tryz.underlying95 h hw 3 rfl (ft := 92) (off := 3) rfl rfl cellsNb
  obtain ⟨_, y4, h4, w4⟩ := field_at Tryz.underlying95 h hw 4 rfl (ft := 93) (off := 6) rfl rfl cellsSl2
  obtain ⟨_, y5, h5, _⟩ := field_at Tryz.underlying95 h hw 5 rfl (ft := 3) (off := 7) rfl rfl cellsIn
  obtain ⟨_, y6, h6, w6⟩ := field_at Tryz.underlying95 h hw 6 rfl (ft := 9) (off := 8) rfl rfl cellsSt
  obtain ⟨_, y7, h7, _⟩ := field_at Tryz.underlying95 h hw 7 rfl (ft := 3) (off := 9) rfl rfl cellsIn
  obtain ⟨p0, q0, _, _⟩ := DataW.trod_int Tryz.underlying89 h0
  obtain ⟨p1, q1, ex1, _⟩ := DataW.trod_string Tryz.underlying9 h1
  obtain ⟨p2, q2, _, _⟩ := DataW.trod_int Tryz.underlying3 h2
  obtain ⟨n3, e3, _⟩ := open_nb h3 w3
  obtain ⟨da, dc, ds, e4, r4, b4⟩ := open_nbs h4 w4
  obtain ⟨p5, q5, _, _⟩ := DataW.trod_int Tryz.underlying3 h5
  obtain ⟨p6, q6, ex6, _⟩ := DataW.trod_string Tryz.underlying9 h6
  obtain ⟨p7, q7, _, _⟩ := DataW.trod_int Tryz.underlying3 h7
  have s1 : p1.size ≤ 140737488355328 := str_le (congrArg Prod.fst ex1) w1
  have s6 : p6.size ≤ 140737488355328 := str_le (congrArg Prod.fst ex6) w6
  simp [Nb.cells] at q0 q1 q2 e3 q5 q6 q7
  obtain ⟨rfl, rfl, rfl⟩ := e3
  subst q0 q1 q2 e4 q5 q6 q7
  exact ⟨⟨p0, p1, p2, n3.w, n3.hi, n3.lo, da, ds.length, dc, p5, p6, p7⟩, rfl, ⟨s1, s6, b4⟩, ds, rfl, r4⟩
theorem open_efs {fuel : Nat} {v : Value} {x : DataW H × List MemPlace} (h : DataW.trod enc Tryz.prog W base (fun _ => true) true fuel 25 [v] = some x) (hw : ∀ n ∈ x.1.weights Tryz.prog 25, n ≤ reachBytes) : ∃ (a : Option Addr) (cap : Nat) (l : List Ef), v = .slice a l.length cap ∧ RdG Ef.cells 10 W a l ∧ l.length ≤ 140737488355328 ∧ ∀ y ∈ l, EfO W y := by
  obtain ⟨a, cap, l, h1, h2, h3, h4⟩ := open_list Tryz.underlying25 cellsEf (by decide) Ef.cells (EfO W) (fun h hw => open_ef h hw) h hw
  rw [bytesEf] at h3
  exact ⟨a, cap, l, h1, h2.rd, reach_le h3 (by decide), h4⟩
structure PsO (W : World) (p : Ps) : Prop where
  rx : RdA W p.pa p.xs
  nx : p.pa = none → p.pc = 0
  lx : p.xs.length ≤ 140737488351232
  re : RdG Ef.cells 10 W p.ea p.es
  le : p.es.length ≤ 140737488355328
  eo : ∀ e ∈ p.es, EfO W e
set_option maxRecDepth 100000 in
theorem open_ps {fuel : Nat} {cs : List Value} {x : DataW H × List MemPlace} (h : DataW.trod enc Tryz.prog W base (fun _ => true) true fuel 27 cs = some x) (hw : ∀ n ∈ x.1.weights Tryz.prog 27, n ≤ reachBytes) : ∃ y : Ps, cs = y.cells ∧ PsO W y := by
  have hl := len_struct Tryz.underlying27 h
  rw [cellsPs] at hl
  obtain ⟨a, b, c, d, e, f, rfl⟩ := six hl
  obtain ⟨_, y0, h0, _⟩ := field_at Tryz.underlying27 h hw 0 rfl (ft := 23) (off := 0) rfl rfl cellsEn
  obtain ⟨_, y1, h1, w1⟩ := field_at Tryz.underlying27 h hw 1 rfl (ft := 24) (off := 1) rfl rfl cellsSl7
  obtain ⟨_, y2, h2, _⟩ := field_at Tryz.underlying27 h hw 2 rfl (ft := 3) (off := 2) rfl rfl cellsIn
  obtain ⟨_, y3, h3, _⟩ := field_at Tryz.underlying27 h hw 3 rfl (ft := 4) (off := 3) rfl rfl cellsBo
  obtain ⟨_, y4, h4, _⟩ := field_at Tryz.underlying27 h hw 4 rfl (ft := 4) (off := 4) rfl rfl cellsBo
  obtain ⟨_, y5, h5, w5⟩ := field_at Tryz.underlying27 h hw 5 rfl (ft := 25) (off := 5) rfl rfl cellsSl6
  obtain ⟨p0, q0, _, _⟩ := DataW.trod_int Tryz.underlying23 h0
  obtain ⟨it, e1, r1, b1⟩ := open_itR h1 w1
  obtain ⟨p2, q2, _, _⟩ := DataW.trod_int Tryz.underlying3 h2
  obtain ⟨p3, q3⟩ := trod_bool1 h3
  obtain ⟨p4, q4⟩ := trod_bool1 h4
  obtain ⟨ea, ec, es, e5, r5, b5, o5⟩ := open_efs h5 w5
  simp at q0 q2
  subst q0 e1 q2 q3 q4 e5
  exact ⟨⟨p0, it.a, it.cap, it.xs, p2, p3, p4, ea, ec, es⟩, rfl, r1.rd, r1.nn, b1, r5, b5, o5⟩
/- All together. -/
theorem qcA_of {a : Option Addr} {gs : List Gp} {p : Ps} (h1 : RdG Gp.cells 1 W a gs) (h2 : gs.length ≤ 140737488355328) (h3 : ∀ y ∈ gs, RdZ W y.a y.ps ∧ y.ps.length ≤ 140737488355328) (h4 : PsO W p) : ∃ D : Ef → List Nb, QcA W a gs p D := by
  have key : ∀ e : Ef, ∃ d : List Nb, (∃ d' : List Nb, e.dn = d'.length ∧ RdN W e.da d') → (e.dn = d.length ∧ RdN W e.da d) := fun e => by
    by_cases hd : ∃ d' : List Nb, e.dn = d'.length ∧ RdN W e.da d'
    · obtain ⟨d, hd⟩ := hd
      exact ⟨d, fun _ => hd⟩
    · exact ⟨[], fun k => absurd k hd⟩
  obtain ⟨D, hD⟩ := Classical.axiomOfChoice key
  exact ⟨D, h1, h2, h3, h4.rx, h4.nx, h4.lx, h4.re, h4.le, fun e he => ⟨(h4.eo e he).1, hD e (h4.eo e he).2⟩⟩
end Go.Proofs.YtclhmggnkhnnlaaGreatDoor
