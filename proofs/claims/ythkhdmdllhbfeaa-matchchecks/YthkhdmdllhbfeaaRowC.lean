/- What came in, opened: numbers, matches, entries, tables; and a Case of them. -/
import Derived.Test.YthkhdmdllhbfeaaGnR
import Derived.Test.YthkhdmdllhbfeaaMtX
namespace Go.Proofs.Ythkhdmdllhbfeaa
open Go.ChangeShapes Go.WideShapes Go.ChangeAt Go.RowKit

variable {H : Type} {enc : TypeId × Value → H} {W : World} {base : Nat}
theorem cellsMx : Try.prog.cellsOf 62 = 7 := by kernel_rfl
theorem cellsEn : Try.prog.cellsOf 30 = 4 := by kernel_rfl
theorem cellsTb : Try.prog.cellsOf 25 = 3 := by kernel_rfl
theorem cellsCa : Try.prog.cellsOf 32 = 8 := by kernel_rfl
theorem cellsKk : Try.prog.cellsOf 60 = 1 := by kernel_rfl
theorem cellsSl1 : Try.prog.cellsOf 27 = 1 := by kernel_rfl
theorem cellsSl3 : Try.prog.cellsOf 26 = 1 := by kernel_rfl
theorem cellsSl4 : Try.prog.cellsOf 22 = 1 := by kernel_rfl
set_option maxRecDepth 100000 in
theorem open_mx {fuel : Nat} {cs : List Value} {x : DataW H × List MemPlace} (h : DataW.trod enc Try.prog W base (fun _ => true) true fuel 62 cs = some x) (hw : ∀ n ∈ x.1.weights Try.prog 62, n ≤ reachBytes) : ∃ y : Mx, cs = y.cells ∧ MxR y := by
  have hl := len_struct Try.underlying62 h
  rw [cellsMx] at hl
  obtain ⟨a, b, c, d, e, f, g, rfl⟩ := seven hl
  obtain ⟨_, y0, h0, w0⟩ := field_at Try.underlying62 h hw 0 rfl (ft := 52) (off := 0) rfl rfl cellsNb
  obtain ⟨_, y1, h1, w1⟩ := field_at Try.underlying62 h hw 1 rfl (ft := 52) (off := 3) rfl rfl cellsNb
  obtain ⟨_, y2, h2, _⟩ := field_at Try.underlying62 h hw 2 rfl (ft := 3) (off := 6) rfl rfl cellsIn
  obtain ⟨n0, e0, r0⟩ := open_nb h0 w0
  obtain ⟨n1, e1, r1⟩ := open_nb h1 w1
  obtain ⟨p, q2, _, w2⟩ := DataW.trod_int Try.underlying3 h2
  simp [Nb.cells] at e0 e1 q2
  obtain ⟨rfl, rfl, rfl⟩ := e0
  obtain ⟨rfl, rfl, rfl⟩ := e1
  subst q2
  exact ⟨⟨n0, n1, p⟩, rfl, ⟨r0, r1, intE w2⟩⟩
theorem bytesMx : Try.prog.bytesOf 62 = 56 := by kernel_rfl
theorem bytesEn : Try.prog.bytesOf 30 = 72 := by kernel_rfl
theorem bytesKk : Try.prog.bytesOf 60 = 1 := by kernel_rfl
theorem rdX_of {a : Option Addr} {cap : Nat} {l : List Mx} (h : LiE W 7 Mx.cells a cap l) : RdX W a l := by
  rcases h.rd with h | ⟨p, off, e, hp, hc⟩
  · exact .inl h
  · exact .inr ⟨p, off, e, hp, fun i hi => ⟨hc i hi 0 _ rfl, hc i hi 1 _ rfl, hc i hi 2 _ rfl, hc i hi 3 _ rfl, hc i hi 4 _ rfl, hc i hi 5 _ rfl, hc i hi 6 _ rfl⟩⟩
theorem open_mxs {fuel : Nat} {v : Value} {x : DataW H × List MemPlace} (h : DataW.trod enc Try.prog W base (fun _ => true) true fuel 27 [v] = some x) (hw : ∀ n ∈ x.1.weights Try.prog 27, n ≤ reachBytes) : ∃ (a : Option Addr) (cap : Nat) (l : List Mx), v = .slice a l.length cap ∧ RdX W a l ∧ (a = none → cap = 0) ∧ l.length ≤ 140737488355328 ∧ ∀ y ∈ l, MxR y := by
  obtain ⟨a, cap, l, h1, h2, h3, h4⟩ := open_list Try.underlying27 cellsMx (by decide) Mx.cells MxR (fun h hw => open_mx h hw) h hw
  rw [bytesMx] at h3
  exact ⟨a, cap, l, h1, rdX_of h2, h2.nn, reach_le h3 (by decide), h4⟩
/- An entry that came in, however great. -/
structure EnO (W : World) (x : EnL) : Prop where
  ms : RdX W x.ma x.e.ms
  args : RdN W x.aa x.e.args
  mb : x.e.ms.length ≤ 140737488355328
  ab : x.e.args.length ≤ 140737488355328
  sb : x.e.act.size ≤ 140737488355328
  mr : ∀ m ∈ x.e.ms, MxR m
  ar : ∀ b ∈ x.e.args, NbR b
  pr : i64R x.e.prio
  mz : x.ma = none → x.mc = 0
  az : x.aa = none → x.ac = 0
set_option maxRecDepth 100000 in
theorem open_en {fuel : Nat} {cs : List Value} {x : DataW H × List MemPlace} (h : DataW.trod enc Try.prog W base (fun _ => true) true fuel 30 cs = some x) (hw : ∀ n ∈ x.1.weights Try.prog 30, n ≤ reachBytes) : ∃ y : EnL, cs = y.cells ∧ EnO W y := by
  have hl := len_struct Try.underlying30 h
  rw [cellsEn] at hl
  obtain ⟨a, b, c, d, rfl⟩ := four hl
  obtain ⟨_, y0, h0, w0⟩ := field_at Try.underlying30 h hw 0 rfl (ft := 27) (off := 0) rfl rfl cellsSl1
  obtain ⟨_, y1, h1, _⟩ := field_at Try.underlying30 h hw 1 rfl (ft := 3) (off := 1) rfl rfl cellsIn
  obtain ⟨_, y2, h2, w2⟩ := field_at Try.underlying30 h hw 2 rfl (ft := 9) (off := 2) rfl rfl cellsSt
  obtain ⟨_, y3, h3, w3⟩ := field_at Try.underlying30 h hw 3 rfl (ft := 28) (off := 3) rfl rfl cellsSl2
  obtain ⟨ma, mc, ms, e0, r0, z0, b0, m0⟩ := open_mxs h0 w0
  obtain ⟨p, q1, _, wf1⟩ := DataW.trod_int Try.underlying3 h1
  obtain ⟨act, q2, ex2, _⟩ := DataW.trod_string Try.underlying9 h2
  obtain ⟨aa, ac, args, e3, r3, z3, b3, m3⟩ := open_nbs h3 w3
  have hs : act.size ≤ 140737488355328 := by
    have := w2 act.data.toList.length (by rw [ex2]; simp only [DataW.weights]; exact List.mem_singleton.2 rfl)
    unfold reachBytes at this
    have e : act.data.toList.length = act.size := Array.length_toList
    omega
  simp at q1 q2
  subst e0 q1 q2 e3
  exact ⟨⟨⟨ms, p, act, args⟩, ma, mc, aa, ac⟩, rfl, ⟨r0, r3, b0, b3, hs, m0, m3, intE wf1, z0, z3⟩⟩
structure RdEO (W : World) (a : Option Addr) (l : List EnL) : Prop where
  rd : l = [] ∨ ∃ p off, a = some ⟨p, off, none⟩ ∧ p < W.heap.size ∧ ∀ i (h : i < l.length), W.cell? ⟨p, off + i * 4, none⟩ = some (.slice l[i].ma l[i].e.ms.length l[i].mc) ∧ W.cell? ⟨p, off + i * 4 + 1, none⟩ = some (.int .i64 l[i].e.prio) ∧ W.cell? ⟨p, off + i * 4 + 2, none⟩ = some (.string l[i].e.act) ∧ W.cell? ⟨p, off + i * 4 + 3, none⟩ = some (.slice l[i].aa l[i].e.args.length l[i].ac)
  ok : ∀ x ∈ l, EnO W x
theorem open_ens {fuel : Nat} {v : Value} {x : DataW H × List MemPlace} (h : DataW.trod enc Try.prog W base (fun _ => true) true fuel 26 [v] = some x) (hw : ∀ n ∈ x.1.weights Try.prog 26, n ≤ reachBytes) : ∃ (a : Option Addr) (cap : Nat) (l : List EnL), v = .slice a l.length cap ∧ RdEO W a l ∧ (a = none → cap = 0) ∧ l.length ≤ 140737488355328 := by
  obtain ⟨a, cap, l, h1, h2, h3, h4⟩ := open_list Try.underlying26 cellsEn (by decide) EnL.cells (EnO W) (fun h hw => open_en h hw) h hw
  rw [bytesEn] at h3
  refine ⟨a, cap, l, h1, ⟨?_, h4⟩, h2.nn, reach_le h3 (by decide)⟩
  rcases h2.rd with h | ⟨p, off, e, hp, hc⟩
  · exact .inl h
  · exact .inr ⟨p, off, e, hp, fun i hi => ⟨hc i hi 0 _ rfl, hc i hi 1 _ rfl, hc i hi 2 _ rfl, hc i hi 3 _ rfl⟩⟩
set_option maxRecDepth 100000 in
theorem open_tb {fuel : Nat} {cs : List Value} {x : DataW H × List MemPlace} (h : DataW.trod enc Try.prog W base (fun _ => true) true fuel 25 cs = some x) (hw : ∀ n ∈ x.1.weights Try.prog 25, n ≤ reachBytes) : ∃ y : TbL, cs = [.slice y.ka y.t.ks.length y.kc, .slice y.wa y.t.ws.length y.wc, .int .i64 y.t.size] ∧ TbR W y := by
  have hl := len_struct Try.underlying25 h
  rw [cellsTb] at hl
  obtain ⟨a, b, c, rfl⟩ := three hl
  obtain ⟨_, y0, h0, w0⟩ := field_at Try.underlying25 h hw 0 rfl (ft := 22) (off := 0) rfl rfl cellsSl4
  obtain ⟨_, y1, h1, w1⟩ := field_at Try.underlying25 h hw 1 rfl (ft := 23) (off := 1) rfl rfl cellsSl5
  obtain ⟨_, y2, h2, _⟩ := field_at Try.underlying25 h hw 2 rfl (ft := 3) (off := 2) rfl rfl cellsIn
  obtain ⟨ka, kc, ks, e0, l0, b0, _⟩ := open_list Try.underlying22 cellsKk (by decide) (fun n : Nat => [Value.int .u8 (n : Nat)]) (fun n => n < 256) (fun h _ => by
    obtain ⟨n, hn, _, wf⟩ := DataW.trod_int Try.underlying60 h
    have hb := byteE wf
    obtain ⟨m, rfl⟩ := Int.eq_ofNat_of_zero_le hb.1
    exact ⟨m, hn, by omega⟩) h0 w0
  obtain ⟨wa, wc, ws, e1, l1, b1, r1⟩ := open_list Try.underlying23 cellsIn (by decide) (fun n : Int => [Value.int .i64 n]) i64R (fun h _ => by
    obtain ⟨n, hn, _, wf⟩ := DataW.trod_int Try.underlying3 h
    exact ⟨n, hn, intE wf⟩) h1 w1
  obtain ⟨s, q2, _, _⟩ := DataW.trod_int Try.underlying3 h2
  rw [bytesKk] at b0
  rw [bytesIn] at b1
  simp at q2
  subst e0 e1 q2
  refine ⟨⟨⟨ks, ws, s⟩, ka, kc, wa, wc⟩, rfl, ⟨?_, ?_, reach_le b0 (by decide), reach_le b1 (by decide), r1⟩⟩
  · rcases l0.rd with h | ⟨p, off, e, hp, hc⟩
    · exact .inl h
    · exact .inr ⟨p, off, e, hp, fun i hi => by have := hc i hi 0 _ rfl; rw [Nat.mul_one] at this; exact this⟩
  · rcases l1.rd with h | ⟨p, off, e, hp, hc⟩
    · exact .inl h
    · exact .inr ⟨p, off, e, hp, fun i hi => by have := hc i hi 0 _ rfl; rw [Nat.mul_one] at this; exact this⟩
end Go.Proofs.Ythkhdmdllhbfeaa
