/- Pieces of the proof: RowC, MwA, MwB. -/
import Derived.Test.YteflnicgohjiiaaGreatDoorM4
import Derived.Test.YteflnicgohjiiaaGreatDoorM17
/- What came in, opened: numbers, matches, entries, tables; and a Case of them. -/
namespace Go.Proofs.YteflnicgohjiiaaGreatDoor
open Go.ChangeShapes Go.WideShapes Go.ChangeAt Go.RowKit

variable {H : Type} {enc : TypeId × Value → H} {W : World} {base : Nat}
theorem cellsMx : Tryz.prog.cellsOf 105 = 7 := by kernel_rfl
theorem cellsEn : Tryz.prog.cellsOf 30 = 4 := by kernel_rfl
theorem cellsTb : Tryz.prog.cellsOf 25 = 3 := by kernel_rfl
theorem cellsCa : Tryz.prog.cellsOf 32 = 8 := by kernel_rfl
theorem cellsKk : Tryz.prog.cellsOf 103 = 1 := by kernel_rfl
theorem cellsSl1 : Tryz.prog.cellsOf 27 = 1 := by kernel_rfl
theorem cellsSl3 : Tryz.prog.cellsOf 26 = 1 := by kernel_rfl
theorem cellsSl4 : Tryz.prog.cellsOf 22 = 1 := by kernel_rfl
set_option maxRecDepth 100000 in
theorem open_mx {fuel : Nat} {cs : List Value} {x : DataW H × List MemPlace} (h : DataW.trod enc Tryz.prog W base (fun _ => true) true fuel 105 cs = some x) (hw : ∀ n ∈ x.1.weights Tryz.prog 105, n ≤ reachBytes) : ∃ y : Mx, cs = y.cells ∧ MxR y := by
  have hl := len_struct Tryz.underlying105 h
  rw [cellsMx] at hl
  obtain ⟨a, b, c, d, e, f, g, rfl⟩ := seven hl
  obtain ⟨_, y0, h0, w0⟩ := field_at Tryz.underlying105 h hw 0 rfl (ft := 86) (off := 0) rfl rfl cellsNb
  obtain ⟨_, y1, h1, w1⟩ := field_at Tryz.underlying105 h hw 1 rfl (ft := 86) (off := 3) rfl rfl cellsNb
  obtain ⟨_, y2, h2, _⟩ := field_at Tryz.underlying105 h hw 2 rfl (ft := 3) (off := 6) rfl rfl cellsIn
  obtain ⟨n0, e0, r0⟩ := open_nb h0 w0
  obtain ⟨n1, e1, r1⟩ := open_nb h1 w1
  obtain ⟨p, q2, _, w2⟩ := DataW.trod_int Tryz.underlying3 h2
  simp [Nb.cells] at e0 e1 q2
  obtain ⟨rfl, rfl, rfl⟩ := e0
  obtain ⟨rfl, rfl, rfl⟩ := e1
  subst q2
  exact ⟨⟨n0, n1, p⟩, rfl, ⟨r0, r1, intE w2⟩⟩
theorem bytesMx : Tryz.prog.bytesOf 105 = 56 := by kernel_rfl
theorem bytesEn : Tryz.prog.bytesOf 30 = 72 := by kernel_rfl
theorem bytesKk : Tryz.prog.bytesOf 103 = 1 := by kernel_rfl
theorem rdX_of {a : Option Addr} {cap : Nat} {l : List Mx} (h : LiE W 7 Mx.cells a cap l) : RdX W a l := by
  rcases h.rd with h | ⟨p, off, e, hp, hc⟩
  · exact .inl h
  · exact .inr ⟨p, off, e, hp, fun i hi => ⟨hc i hi 0 _ rfl, hc i hi 1 _ rfl, hc i hi 2 _ rfl, hc i hi 3 _ rfl, hc i hi 4 _ rfl, hc i hi 5 _ rfl, hc i hi 6 _ rfl⟩⟩
theorem open_mxs {fuel : Nat} {v : Value} {x : DataW H × List MemPlace} (h : DataW.trod enc Tryz.prog W base (fun _ => true) true fuel 27 [v] = some x) (hw : ∀ n ∈ x.1.weights Tryz.prog 27, n ≤ reachBytes) : ∃ (a : Option Addr) (cap : Nat) (l : List Mx), v = .slice a l.length cap ∧ RdX W a l ∧ (a = none → cap = 0) ∧ l.length ≤ 140737488355328 ∧ ∀ y ∈ l, MxR y := by
  obtain ⟨a, cap, l, h1, h2, h3, h4⟩ := open_list Tryz.underlying27 cellsMx (by decide) Mx.cells MxR (fun h hw => open_mx h hw) h hw
  rw [bytesMx] at h3
  exact ⟨a, cap, l, h1, rdX_of h2, h2.nn, reach_le h3 (by decide), h4⟩
/- An entry that came in, however great. -/
structure EnO (W : World) (x : EnL) : Prop where
  ms : RdX W x.ma x.e.ms
  args : RdN W x.aa x.e.args
  mb : x.e.ms.length ≤ 140737488355328
  ab : x.e.args.length ≤ 140737488355328
  sb : x.e.act.size ≤ 140737488355328
  mr : ∀ m ∈ x.e.ms, MxR m
  ar : ∀ b ∈ x.e.args, NbR b
  pr : i64R x.e.prio
  mz : x.ma = none → x.mc = 0
  az : x.aa = none → x.ac = 0
set_option maxRecDepth 100000 in
theorem open_en {fuel : Nat} {cs : List Value} {x : DataW H × List MemPlace} (h : DataW.trod enc Tryz.prog W base (fun _ => true) true fuel 30 cs = some x) (hw : ∀ n ∈ x.1.weights Tryz.prog 30, n ≤ reachBytes) : ∃ y : EnL, cs = y.cells ∧ EnO W y := by
  have hl := len_struct Tryz.underlying30 h
  rw [cellsEn] at hl
  obtain ⟨a, b, c, d, rfl⟩ := four hl
  obtain ⟨_, y0, h0, w0⟩ := field_at Tryz.underlying30 h hw 0 rfl (ft := 27) (off := 0) rfl rfl cellsSl1
  obtain ⟨_, y1, h1, _⟩ := field_at Tryz.underlying30 h hw 1 rfl (ft := 3) (off := 1) rfl rfl cellsIn
  obtain ⟨_, y2, h2, w2⟩ := field_at Tryz.underlying30 h hw 2 rfl (ft := 9) (off := 2) rfl rfl cellsSt
  obtain ⟨_, y3, h3, w3⟩ := field_at Tryz.underlying30 h hw 3 rfl (ft := 28) (off := 3) rfl rfl cellsSl2
  obtain ⟨ma, mc, ms, e0, r0, z0, b0, m0⟩ := open_mxs h0 w0
  obtain ⟨p, q1, _, wf1⟩ := DataW.trod_int Tryz.underlying3 h1
  obtain ⟨act, q2, ex2, _⟩ := DataW.trod_string Tryz.underlying9 h2
  obtain ⟨aa, ac, args, e3, r3, z3, b3, m3⟩ := open_nbs h3 w3
  have hs : act.size ≤ 140737488355328 := by
    have := w2 act.data.toList.length (by rw [ex2]; simp only [DataW.weights]; exact List.mem_singleton.2 rfl)
    unfold reachBytes at this
    have e : act.data.toList.length = act.size := Array.length_toList
    omega
  simp at q1 q2
  subst e0 q1 q2 e3
  exact ⟨⟨⟨ms, p, act, args⟩, ma, mc, aa, ac⟩, rfl, ⟨r0, r3, b0, b3, hs, m0, m3, intE wf1, z0, z3⟩⟩
structure RdEO (W : World) (a : Option Addr) (l : List EnL) : Prop where
  rd : l = [] ∨ ∃ p off, a = some ⟨p, off, none⟩ ∧ p < W.heap.size ∧ ∀ i (h : i < l.length), W.cell? ⟨p, off + i * 4, none⟩ = some (.slice l[i].ma l[i].e.ms.length l[i].mc) ∧ W.cell? ⟨p, off + i * 4 + 1, none⟩ = some (.int .i64 l[i].e.prio) ∧ W.cell? ⟨p, off + i * 4 + 2, none⟩ = some (.string l[i].e.act) ∧ W.cell? ⟨p, off + i * 4 + 3, none⟩ = some (.slice l[i].aa l[i].e.args.length l[i].ac)
  ok : ∀ x ∈ l, EnO W x
theorem open_ens {fuel : Nat} {v : Value} {x : DataW H × List MemPlace} (h : DataW.trod enc Tryz.prog W base (fun _ => true) true fuel 26 [v] = some x) (hw : ∀ n ∈ x.1.weights Tryz.prog 26, n ≤ reachBytes) : ∃ (a : Option Addr) (cap : Nat) (l : List EnL), v = .slice a l.length cap ∧ RdEO W a l ∧ (a = none → cap = 0) ∧ l.length ≤ 140737488355328 := by
  obtain ⟨a, cap, l, h1, h2, h3, h4⟩ := open_list Tryz.underlying26 cellsEn (by decide) EnL.cells (EnO W) (fun h hw => open_en h hw) h hw
  rw [bytesEn] at h3
  refine ⟨a, cap, l, h1, ⟨?_, h4⟩, h2.nn, reach_le h3 (by decide)⟩
  rcases h2.rd with h | ⟨p, off, e, hp, hc⟩
  · exact .inl h
  · exact .inr ⟨p, off, e, hp, fun i hi => ⟨hc i hi 0 _ rfl, hc i hi 1 _ rfl, hc i hi 2 _ rfl, hc i hi 3 _ rfl⟩⟩
set_option maxRecDepth 100000 in
theorem open_tb {fuel : Nat} {cs : List Value} {x : DataW H × List MemPlace} (h : DataW.trod enc Tryz.prog W base (fun _ => true) true fuel 25 cs = some x) (hw : ∀ n ∈ x.1.weights Tryz.prog 25, n ≤ reachBytes) : ∃ y : TbL, cs = [.slice y.ka y.t.ks.length y.kc, .slice y.wa y.t.ws.length y.wc, .int .i64 y.t.size] ∧ TbR W y := by
  have hl := len_struct Tryz.underlying25 h
  rw [cellsTb] at hl
  obtain ⟨a, b, c, rfl⟩ := three hl
  obtain ⟨_, y0, h0, w0⟩ := field_at Tryz.underlying25 h hw 0 rfl (ft := 22) (off := 0) rfl rfl cellsSl4
  obtain ⟨_, y1, h1, w1⟩ := field_at Tryz.underlying25 h hw 1 rfl (ft := 23) (off := 1) rfl rfl cellsSl5
  obtain ⟨_, y2, h2, _⟩ := field_at Tryz.underlying25 h hw 2 rfl (ft := 3) (off := 2) rfl rfl cellsIn
  obtain ⟨ka, kc, ks, e0, l0, b0, _⟩ := open_list Tryz.underlying22 cellsKk (by decide) (fun n : Nat => [Value.int .u8 (n : Nat)]) (fun n => n < 256) (fun h _ => by
    obtain ⟨n, hn, _, wf⟩ := DataW.trod_int Tryz.underlying103 h
    have hb := byteE wf
    obtain ⟨m, rfl⟩ := Int.eq_ofNat_of_zero_le hb.1
    exact ⟨m, hn, by omega⟩) h0 w0
  obtain ⟨wa, wc, ws, e1, l1, b1, r1⟩ := open_list Tryz.underlying23 cellsIn (by decide) (fun n : Int => [Value.int .i64 n]) i64R (fun h _ => by
    obtain ⟨n, hn, _, wf⟩ := DataW.trod_int Tryz.underlying3 h
    exact ⟨n, hn, intE wf⟩) h1 w1
  obtain ⟨s, q2, _, _⟩ := DataW.trod_int Tryz.underlying3 h2
  rw [bytesKk] at b0
  rw [bytesIn] at b1
  simp at q2
  subst e0 e1 q2
  refine ⟨⟨⟨ks, ws, s⟩, ka, kc, wa, wc⟩, rfl, ⟨?_, ?_, reach_le b0 (by decide), reach_le b1 (by decide), r1⟩⟩
  · rcases l0.rd with h | ⟨p, off, e, hp, hc⟩
    · exact .inl h
    · exact .inr ⟨p, off, e, hp, fun i hi => by have := hc i hi 0 _ rfl; rw [Nat.mul_one] at this; exact this⟩
  · rcases l1.rd with h | ⟨p, off, e, hp, hc⟩
    · exact .inl h
    · exact .inr ⟨p, off, e, hp, fun i hi => by have := hc i hi 0 _ rfl; rw [Nat.mul_one] at this; exact this⟩
end Go.Proofs.YteflnicgohjiiaaGreatDoor
/- How great a case is. -/
namespace Go.Proofs.YteflnicgohjiiaaGreatDoor
open Go.RowKit

def szE (e : En) : Nat := if 1 + e.act.size ≤ 1048576 then (if 1 + e.act.size + e.ms.length ≤ 1048576 then 1 + e.act.size + e.ms.length + e.args.length else 1 + e.act.size + e.ms.length) else 1 + e.act.size
def szF : Nat → List En → Nat
  | n, [] => n
  | n, e :: l => if n ≤ 1048576 then szF (n + szE e) l else n
def esz (l : List En) : Nat := szF l.length l
theorem szF_le : ∀ (l : List En) (n : Nat), n ≤ szF n l
  | [], n => Nat.le_refl _
  | e :: l, n => by
    rw [szF]
    split
    · have := szF_le l (n + szE e); omega
    · omega
theorem szF_mem : ∀ (l : List En) (n : Nat), szF n l ≤ 1048576 → ∀ e ∈ l, szE e ≤ szF n l
  | [], _, _, e, h => by simp at h
  | x :: l, n, hs, e, h => by
    rw [szF] at hs ⊢
    by_cases hn : n ≤ 1048576
    · rw [if_pos hn] at hs ⊢
      rcases List.mem_cons.1 h with rfl | h
      · have := szF_le l (n + szE e); omega
      · exact szF_mem l _ hs e h
    · rw [if_neg hn] at hs; omega
theorem szF_bd (B : Nat) : ∀ (l : List En) (n : Nat), (∀ e ∈ l, szE e ≤ B) → n ≤ 1048576 + B → szF n l ≤ 1048576 + B
  | [], n, _, hn => hn
  | e :: l, n, h, hn => by
    rw [szF]
    split
    · exact szF_bd B l _ (fun x hx => h x (by simp [hx])) (by have := h e (by simp); omega)
    · exact hn
theorem szF_step (l : List En) (k n : Nat) (h : k < l.length) (hn : n ≤ 1048576) : szF n (l.drop k) = szF (n + szE l[k]) (l.drop (k + 1)) := by
  rw [List.drop_eq_getElem_cons h, szF, if_pos hn]
theorem szF_stop (l : List En) (n : Nat) (hn : 1048576 < n) : szF n l = n := by
  cases l with
  | nil => rfl
  | cons e l => rw [szF, if_neg (by omega)]
theorem szE_bd {e : En} (h1 : e.act.size ≤ 140737488355328) (h2 : e.ms.length ≤ 140737488355328) (h3 : e.args.length ≤ 140737488355328) : szE e ≤ 500000000000000 := by
  unfold szE; split
  · split <;> omega
  · omega
theorem szE_small {e : En} (h : szE e ≤ 30000) : e.act.size ≤ 30000 ∧ e.ms.length ≤ 30000 ∧ e.args.length ≤ 30000 := by
  unfold szE at h
  split at h
  · split at h <;> omega
  · omega
theorem EnO.small {W : World} {x : EnL} (h : EnO W x) (hs : szE x.e ≤ 30000) : EnR W x := by
  obtain ⟨_, h2, h3⟩ := szE_small hs
  exact ⟨h.ms, h.args, by omega, by omega, h.mr, h.ar, h.pr, h.mz, h.az⟩
theorem EnO.below {W W' : World} {x : EnL} (h : EnO W x) (hb : Below W.heap.size W W') : EnO W' x := ⟨h.ms.below hb, h.args.below hb, h.mb, h.ab, h.sb, h.mr, h.ar, h.pr, h.mz, h.az⟩
theorem RdEO.below {W W' : World} {a : Option Addr} {l : List EnL} (h : RdEO W a l) (hb : Below W.heap.size W W') : RdEO W' a l := by
  refine ⟨?_, fun x hx => (h.ok x hx).below hb⟩
  rcases h.rd with h | ⟨p, off, rfl, hp, hc⟩
  · exact .inl h
  · exact .inr ⟨p, off, rfl, Nat.lt_of_lt_of_le hp hb.size, fun i hi => ⟨(hb.cell (p := ⟨p, _, none⟩) hp).trans (hc i hi).1, (hb.cell (p := ⟨p, _, none⟩) hp).trans (hc i hi).2.1, (hb.cell (p := ⟨p, _, none⟩) hp).trans (hc i hi).2.2.1, (hb.cell (p := ⟨p, _, none⟩) hp).trans (hc i hi).2.2.2⟩⟩
theorem RdEO.small {W : World} {a : Option Addr} {l : List EnL} (h : RdEO W a l) (hs : ∀ x ∈ l, szE x.e ≤ 30000) : RdE W a l := ⟨h.rd, fun x hx => (h.ok x hx).small (hs x hx)⟩
theorem mxSize_any (a : Option Addr) (n c : Nat) (w : World) : Calls Tryz.prog 131 #[.slice a n c] w fun e w' => e = .returned (.int .i64 (n : Int)) ∧ w' = w := by
  go_enter Tryz.func131, Tryz.ntmps131
  go_wp2
  go_ret
  exact ⟨rfl, rfl⟩
theorem nbSize_any (a : Option Addr) (n c : Nat) (w : World) : Calls Tryz.prog 132 #[.slice a n c] w fun e w' => e = .returned (.int .i64 (n : Int)) ∧ w' = w := by
  go_enter Tryz.func132, Tryz.ntmps132
  go_wp2
  go_ret
  exact ⟨rfl, rfl⟩
set_option maxHeartbeats 2000000 in
theorem enSize_any (y : EnL) (h1 : y.e.act.size ≤ 140737488355328) (h2 : y.e.ms.length ≤ 140737488355328) (h3 : y.e.args.length ≤ 140737488355328) : Pure 22 #[y.val] (.int .i64 (szE y.e : Nat)) := fun w => by
  unfold szE
  obtain ⟨⟨ms, prio, act, args⟩, ma, mc, aa, ac⟩ := y
  simp only [EnL.val] at *
  have HM : Hid (∀ W, _) := fun W => mxSize_any ma ms.length mc W
  have HA : Hid (∀ W, _) := fun W => nbSize_any aa args.length ac W
  have e1 : IntKind.i64.wrap (1 + (act.size : Int)) = ((1 + act.size : Nat) : Int) := by rw [IntKind.wrap_i64]; omega
  have e2 : IntKind.i64.wrap (((1 + act.size : Nat) : Int) + (ms.length : Int)) = ((1 + act.size + ms.length : Nat) : Int) := by rw [IntKind.wrap_i64]; omega
  have e3 : IntKind.i64.wrap (((1 + act.size + ms.length : Nat) : Int) + (args.length : Int)) = ((1 + act.size + ms.length + args.length : Nat) : Int) := by rw [IntKind.wrap_i64]; omega
  generalize hA : 1 + act.size = A at *
  generalize hB : A + ms.length = B at *
  generalize hC : B + args.length = C at *
  clear hA hB hC
  by_cases c1 : A ≤ 1048576
  · have d1 : ((A : Int) ≤ 1048576) = True := by simp; omega
    by_cases c2 : B ≤ 1048576
    · have d2 : ((B : Int) ≤ 1048576) = True := by simp; omega
      rw [if_pos c1, if_pos c2]
      clear h1 h2 h3 c1 c2
      go_enter Tryz.func22, Tryz.ntmps22
      go_wp2_with (first | (go_at_call 131; refine (HM.out _).mono ?_; rintro e w1 ⟨rfl, rfl⟩) | (go_at_call 132; refine (HA.out _).mono ?_; rintro e w1 ⟨rfl, rfl⟩))
      go_ret
      exact ⟨rfl, below1 _ _⟩
    · have d2 : ((B : Int) ≤ 1048576) = False := by simp; omega
      rw [if_pos c1, if_neg c2]
      clear h1 h2 h3 c1 c2
      go_enter Tryz.func22, Tryz.ntmps22
      go_wp2_with (first | (go_at_call 131; refine (HM.out _).mono ?_; rintro e w1 ⟨rfl, rfl⟩) | (go_at_call 132; refine (HA.out _).mono ?_; rintro e w1 ⟨rfl, rfl⟩))
      go_ret
      exact ⟨rfl, below1 _ _⟩
  · have d1 : ((A : Int) ≤ 1048576) = False := by simp; omega
    rw [if_neg c1]
    by_cases c2 : B ≤ 1048576
    all_goals
      clear h1 h2 h3 c1 c2
      go_enter Tryz.func22, Tryz.ntmps22
      go_wp2
      go_ret
      exact ⟨rfl, below1 _ _⟩
end Go.Proofs.YteflnicgohjiiaaGreatDoor
/- How great entries are together; beyond. -/
namespace Go.Proofs.YteflnicgohjiiaaGreatDoor
open Go.RowKit

theorem RdEO.some {W : World} {a : Option Addr} {l : List EnL} (h : RdEO W a l) (hx : 0 < l.length) : ∃ p off, a = some ⟨p, off, none⟩ ∧ p < W.heap.size ∧ ∀ i (h : i < l.length), W.cell? ⟨p, off + i * 4, none⟩ = some (.slice l[i].ma l[i].e.ms.length l[i].mc) ∧ W.cell? ⟨p, off + i * 4 + 1, none⟩ = some (.int .i64 l[i].e.prio) ∧ W.cell? ⟨p, off + i * 4 + 2, none⟩ = some (.string l[i].e.act) ∧ W.cell? ⟨p, off + i * 4 + 3, none⟩ = some (.slice l[i].aa l[i].e.args.length l[i].ac) := by
  rcases h.rd with rfl | h
  · simp at hx
  · exact h
set_option maxRecDepth 100000 in
set_option maxHeartbeats 4000000 in
theorem ensSize_any (a : Option Addr) (cap : Nat) (l : List EnL) (w : World) (hr : RdEO w a l) (hl : l.length ≤ 140737488355328) : Calls Tryz.prog 21 #[.slice a l.length cap] w fun e w' => e = .returned (.int .i64 (esz (ens l) : Nat)) ∧ Below w.heap.size w w' := by
  have HR := hide hr
  have HZ : Hid (∀ k (h : k < l.length), szE l[k].e ≤ 500000000000000) := fun k h => by
    have := hr.ok _ (List.getElem_mem h)
    exact szE_bd this.sb this.mb this.ab
  have HC : Hid (∀ k (h : k < l.length), Pure 22 #[l[k].val] (.int .i64 (szE l[k].e : Nat))) := fun k h => by
    have := hr.ok _ (List.getElem_mem h)
    exact enSize_any l[k] this.sb this.mb this.ab
  have HG : Hid (∀ k (h : k < l.length), (ens l)[k]'(by rw [ens_len]; exact h) = l[k].e) := fun k h => by simp [ens]
  have HL := hide hl
  clear hr
  go_enter Tryz.func21, Tryz.ntmps21
  go_wp2
  go_loopw [3, 4] (fun n i wr => ∃ k m : Nat, k ≤ l.length ∧ i = .int .i64 k ∧ n = .int .i64 (m : Nat) ∧ szF m ((ens l).drop k) = esz (ens l) ∧ m ≤ 600000000000000 ∧ Below w.heap.size w wr) (fun _ i _ => l.length - (intOf i).toNat)
  case atStart => exact ⟨0, l.length, by omega, rfl, rfl, by simp [esz, ens_len], by omega, Below.refl _ _⟩
  case round =>
    obtain ⟨k, m, hk, rfl, rfl, hsz, hm, hb⟩ := hrel
    have HS := hide hsz
    have HW := hide hb
    clear hsz hb
    by_cases hlt : k < l.length
    · have hlI : (k : Int) < (l.length : Int) := by omega
      by_cases hmost : m ≤ 1048576
      · have d1 : ((m : Int) ≤ 1048576) = True := by simp; omega
        obtain ⟨p, off, rfl, hp, hcl⟩ := (HR.out.below HW.out).some (by omega)
        obtain ⟨q0, q1, q2, q3⟩ := hcl k hlt
        have HD := hide (HC.out k hlt wr)
        have hz := HZ.out k hlt
        have HT : Hid (szF (m + szE l[k].e) ((ens l).drop (k + 1)) = esz (ens l)) := by
          show _ = _
          rw [← HS.out, szF_step (ens l) k m (by rw [ens_len]; exact hlt) hmost, HG.out k hlt]
        clear hcl hp
        generalize szE l[k].e = z at *
        generalize l[k] = x at *
        obtain ⟨⟨ms, prio, act, args⟩, ma, mc, aa, ac⟩ := x
        simp only [EnL.val] at *
        have hw1 : IntKind.i64.wrap ((m : Int) + (z : Int)) = ((m + z : Nat) : Int) := by rw [IntKind.wrap_i64]; omega
        have hkb : k < 140737488355328 := by have := HL.out; omega
        go_wp2_with fail
        refine HD.out.mono ?_
        rintro e w1 ⟨rfl, hb⟩
        go_wp2
        go_roundw
        case rel => exact ⟨k + 1, m + z, by omega, by go_num, by first | rfl | (go_num; done), HT.out, by omega, bstep HW.out hb⟩
        case measure => simp [intOf]; omega
      · have d1 : ((m : Int) ≤ 1048576) = False := by simp; omega
        have HT := hide (by have := HS.out; rw [szF_stop _ _ (by omega)] at this; exact this : m = esz (ens l))
        go_wp2
        go_ret
        exact ⟨by rw [← HT.out]; rfl, HW.out⟩
    · obtain rfl : k = l.length := by omega
      have HT := hide (by have := HS.out; rw [List.drop_of_length_le (by rw [ens_len]; omega)] at this; exact this : m = esz (ens l))
      go_wp2
      go_ret
      exact ⟨by rw [← HT.out]; rfl, HW.out⟩
end Go.Proofs.YteflnicgohjiiaaGreatDoor
