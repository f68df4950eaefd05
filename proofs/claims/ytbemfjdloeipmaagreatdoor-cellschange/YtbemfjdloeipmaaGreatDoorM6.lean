/- Pieces of the proof: CeA, RowAr. -/
import Derived.Test.YtbemfjdloeipmaaGreatDoorM5
/- package cells: arrays as plain data, and the small questions. -/
namespace Go.Proofs.YtbemfjdloeipmaaGreatDoor
open Go.RowKit

structure Ar where
  name : ByteArray
  kind : Int
  w : Int
  rate : Int
  burst : Int
  cs : List Nb
  ls : List Int
/- An array as it lies. -/
structure ArL where
  a : Ar
  ca : Option Addr
  cc : Nat
  la : Option Addr
  lc : Nat
def ArL.cells (x : ArL) : List Value := [.string x.a.name, .int .u8 x.a.kind, .int .i64 x.a.w, .int .i64 x.a.rate, .int .i64 x.a.burst, .slice x.ca x.a.cs.length x.cc, .slice x.la x.a.ls.length x.lc]
def ArL.val (x : ArL) : Value := .agg #[.string x.a.name, .int .u8 x.a.kind, .int .i64 x.a.w, .int .i64 x.a.rate, .int .i64 x.a.burst, .slice x.ca x.a.cs.length x.cc, .slice x.la x.a.ls.length x.lc]
structure ArR (W : World) (x : ArL) : Prop where
  cs : RdN W x.ca x.a.cs
  ls : RdZ W x.la x.a.ls
  cn : x.a.cs.length ≤ 140737488355328
  ln : x.a.ls.length ≤ 140737488355328
  cr : ∀ b ∈ x.a.cs, NbR b
  lr : ∀ n ∈ x.a.ls, i64R n
  wr : i64R x.a.w
  rr : i64R x.a.rate
  br : i64R x.a.burst
  kr : 0 ≤ x.a.kind ∧ x.a.kind < 256
theorem ArR.below {W W' : World} {x : ArL} (h : ArR W x) (hb : Below W.heap.size W W') : ArR W' x := ⟨h.cs.below hb, h.ls.below hb, h.cn, h.ln, h.cr, h.lr, h.wr, h.rr, h.br, h.kr⟩
def holdsB (a : Ar) (b : Nb) : Bool := b.w == a.w && (b.ok && (!(a.kind == 5) || decide (b.lo ≤ IntKind.u64.wrap a.burst)))
def plainB (a : Ar) : Bool := a.rate == 0 && (a.burst == 0 && a.ls.length == 0)
def ticksB (a : Ar) : Bool := a.ls.length == a.cs.length && !(a.ls.any (fun n => decide (n < 0)))
def frameB (a : Ar) : Bool :=
  if a.kind = 3 then fromB 1 a.w 128 && plainB a
  else if a.kind = 4 then a.w == 64 && plainB a
  else if a.kind = 5 then a.w == 64 && (fromB 0 a.rate 65535 && (fromB 1 a.burst 65535 && ticksB a))
  else false
def mayA (a : Ar) : Bool := frameB a && (fromB 1 a.cs.length 4096 && !(a.cs.any (fun b => !holdsB a b)))
theorem cfrom_any (a n b : Int) (w : World) : Calls Tryz.prog 200 #[.int .i64 a, .int .i64 n, .int .i64 b] w fun e w' => e = .returned (.bool (fromB a n b)) ∧ w' = w := by
  unfold fromB
  by_cases h1 : a ≤ n
  · by_cases h2 : n ≤ b
    all_goals
      go_enter Tryz.func200, Tryz.ntmps200
      go_wp2
      go_ret
      exact ⟨by simp [h1, h2], rfl⟩
  · go_enter Tryz.func200, Tryz.ntmps200
    go_wp2
    go_ret
    exact ⟨by simp; omega, rfl⟩
theorem word_any (n : Int) : Pure 27 #[.int .u64 n] (.agg #[.int .i64 64, .int .u64 0, .int .u64 n]) := fun w => by
  go_enter Tryz.func27, Tryz.ntmps27
  go_wp2
  refine bodyPost_ret (v := .agg #[.int .i64 64, .int .u64 0, .int .u64 n]) (by simp [results, Tryz.results27, go_sem]) rfl ⟨rfl, ?_⟩
  first
    | exact below1 _ _
    | exact (((below1 _ _).setCell (Nat.le_refl _) _).setCell (Nat.le_refl _) _).setCell (Nat.le_refl _) _
theorem zero_eq (n : Nat) : ((n : Int) == 0) = (n == 0) := by
  cases n with
  | zero => rfl
  | succ n => rw [Bool.eq_iff_iff]; simp; omega
theorem isPlain_any (x : ArL) : Pure 212 #[x.val] (.bool (plainB x.a)) := fun w => by
  obtain ⟨⟨name, kind, aw, rate, burst, cs, ls⟩, ca, cc, la, lc⟩ := x
  simp only [ArL.val, plainB]
  cases e1 : (rate == 0) <;> cases e2 : (burst == 0)
  all_goals
    go_enter Tryz.func212, Tryz.ntmps212
    go_wp2
    go_ret
    exact ⟨by first | rfl | (simp [zero_eq]; done), below1 _ _⟩
theorem neg_any (n : Int) (w : World) : Calls Tryz.prog 220 #[.int .i64 n] w fun e w' => e = .returned (.bool (decide (n < 0))) ∧ w' = w := by
  go_enter Tryz.func220, Tryz.ntmps220
  go_wp2
  go_ret
  exact ⟨by simp, rfl⟩
set_option maxHeartbeats 1000000 in
theorem indexNeg_any (a : Option Addr) (cap : Nat) (l : List Int) (w : World) (hr : RdZ w a l) (hl : l.length ≤ 140737488355328) : Calls Tryz.prog 222 #[.slice a l.length cap, .func (.func 220) #[] #[]] w fun e w' => e = .returned (.int .i64 (firstI (fun n => decide (n < 0)) l)) ∧ w' = w := by
  have HR := hide hr
  clear hr
  go_enter Tryz.func222, Tryz.ntmps222
  go_wp2
  go_loopw [8] (fun i wr => ∃ k : Nat, k ≤ l.length ∧ i = .int .i64 k ∧ (∀ j (hj : j < k) (hj' : j < l.length), decide (l[j] < 0) = false) ∧ wr = w) (fun i _ => l.length - (intOf i).toNat)
  case atStart => exact ⟨0, by omega, rfl, fun j hj => absurd hj (by omega), rfl⟩
  case round =>
    obtain ⟨k, hk, rfl, hn, hwr⟩ := hrel
    subst wr
    have HN := hide hn
    clear hn
    by_cases hlt : k < l.length
    · obtain ⟨p, off, rfl, hp, hcl⟩ := HR.out.some (by omega)
      have q0 := hcl k hlt
      have hlI : (k : Int) < (l.length : Int) := by omega
      have HC := hide (neg_any l[k] w)
      clear hcl
      cases ho : decide (l[k] < 0)
      · have HX : Hid (∀ j (hj : j < k + 1) (hj' : j < l.length), decide (l[j] < 0) = false) := fun j hj hj' => by
          by_cases e : j = k
          · subst e; exact ho
          · exact HN.out j (by omega) hj'
        rw [ho] at HC
        clear ho
        generalize l[k] = b at q0 HC
        go_wp2_with fail
        refine HC.out.mono ?_
        rintro e w1 ⟨rfl, rfl⟩
        go_wp2
        go_roundw
        case rel => exact ⟨k + 1, by omega, by go_num, HX.out, by first | rfl | trivial⟩
        case measure => simp [intOf]; omega
      · have HH := hide (firstI_hit (p := fun n : Int => decide (n < 0)) hlt ho (fun j hj => HN.out j hj (by omega)))
        rw [ho] at HC
        clear ho
        generalize l[k] = b at q0 HC
        go_wp2_with fail
        refine HC.out.mono ?_
        rintro e w1 ⟨rfl, rfl⟩
        go_wp2
        go_ret
        exact ⟨by rw [HH.out]; rfl, rfl⟩
    · obtain rfl : k = l.length := by omega
      have HH := hide (firstI_none (p := fun n : Int => decide (n < 0)) (l := l) (fun j hj => HN.out j hj hj))
      go_wp2
      go_ret
      exact ⟨by rw [HH.out]; rfl, rfl⟩
theorem containsNeg_any (a : Option Addr) (cap : Nat) (l : List Int) (w : World) (hr : RdZ w a l) (hl : l.length ≤ 140737488355328) : Calls Tryz.prog 219 #[.slice a l.length cap, .func (.func 220) #[] #[]] w fun e w' => e = .returned (.bool (l.any (fun n => decide (n < 0)))) ∧ w' = w := by
  have H := hide (indexNeg_any a cap l w hr hl)
  have E := hide (firstI_any (fun n : Int => decide (n < 0)) l)
  clear hr hl
  go_enter Tryz.func219, Tryz.ntmps219
  go_wp2_with (go_at_call 222; refine H.out.mono ?_; rintro e w1 ⟨rfl, rfl⟩)
  go_ret
  exact ⟨by rw [← E.out]; simp, rfl⟩
theorem ticks_any (x : ArL) (w : World) (hx : ArR w x) : Calls Tryz.prog 213 #[x.val] w fun e w' => e = .returned (.bool (ticksB x.a)) ∧ Below w.heap.size w w' := by
  obtain ⟨⟨name, kind, aw, rate, burst, cs, ls⟩, ca, cc, la, lc⟩ := x
  have HC : Hid (∀ W, Below w.heap.size w W → _) := fun W hb => containsNeg_any la lc ls W (hx.ls.below hb) hx.ln
  clear hx
  simp only [ArL.val, ticksB] at *
  generalize ls.any (fun n => decide (n < 0)) = t at *
  by_cases e : ls.length = cs.length
  · have e1 : (ls.length == cs.length) = true := by simp [e]
    rw [e1]
    clear e1
    rw [e] at HC ⊢
    clear e
    go_enter Tryz.func213, Tryz.ntmps213
    go_wp2_with fail
    refine (HC.out _ (below1 _ _)).mono ?_
    rintro e w1 ⟨rfl, rfl⟩
    go_wp2
    go_ret
    exact ⟨by simp, below1 _ _⟩
  · have e1 : (ls.length == cs.length) = false := by simp [e]
    have e2 : ((ls.length : Int) == (cs.length : Int)) = false := by simp; omega
    rw [e1]
    clear e1 e
    go_enter Tryz.func213, Tryz.ntmps213
    go_wp2
    go_ret
    exact ⟨by simp, below1 _ _⟩
end Go.Proofs.YtbemfjdloeipmaaGreatDoor
/- What came in, opened: an array of cells. -/
namespace Go.Proofs.YtbemfjdloeipmaaGreatDoor
open Go.ChangeShapes Go.WideShapes Go.ChangeAt Go.RowKit

variable {H : Type} {enc : TypeId × Value → H} {W : World} {base : Nat}
theorem cellsAr : Tryz.prog.cellsOf 26 = 7 := by kernel_rfl
theorem cellsDk : Tryz.prog.cellsOf 22 = 1 := by kernel_rfl
theorem open_zs {fuel : Nat} {v : Value} {x : DataW H × List MemPlace} (h : DataW.trod enc Tryz.prog W base (fun _ => true) true fuel 24 [v] = some x) (hw : ∀ n ∈ x.1.weights Tryz.prog 24, n ≤ reachBytes) : ∃ (a : Option Addr) (cap : Nat) (l : List Int), v = .slice a l.length cap ∧ RdZ W a l ∧ (a = none → cap = 0) ∧ l.length ≤ 140737488355328 ∧ ∀ y ∈ l, i64R y := by
  obtain ⟨a, cap, l, h1, h2, h3, h4⟩ := open_list Tryz.underlying24 cellsIn (by decide) (fun n : Int => [Value.int .i64 n]) i64R (fun h _ => by
    obtain ⟨n, hn, _, wf⟩ := DataW.trod_int Tryz.underlying3 h
    exact ⟨n, hn, intE wf⟩) h hw
  rw [bytesIn] at h3
  refine ⟨a, cap, l, h1, ?_, h2.nn, reach_le h3 (by decide), h4⟩
  rcases h2.rd with h | ⟨p, off, e, hp, hc⟩
  · exact .inl h
  · exact .inr ⟨p, off, e, hp, fun i hi => by have := hc i hi 0 _ rfl; rw [Nat.mul_one] at this; exact this⟩
set_option maxRecDepth 100000 in
theorem open_ar {fuel : Nat} {cs : List Value} {x : DataW H × List MemPlace} (h : DataW.trod enc Tryz.prog W base (fun _ => true) true fuel 26 cs = some x) (hw : ∀ n ∈ x.1.weights Tryz.prog 26, n ≤ reachBytes) : ∃ y : ArL, cs = y.cells ∧ ArR W y ∧ y.a.name.size ≤ 140737488355328 ∧ (y.ca = none → y.cc = 0) ∧ (y.la = none → y.lc = 0) := by
  have hl := len_struct Tryz.underlying26 h
  rw [cellsAr] at hl
  obtain ⟨a, b, c, d, e, f, g, rfl⟩ := seven hl
  obtain ⟨_, y0, h0, w0⟩ := field_at Tryz.underlying26 h hw 0 rfl (ft := 9) (off := 0) rfl rfl cellsSt
  obtain ⟨_, y1, h1, _⟩ := field_at Tryz.underlying26 h hw 1 rfl (ft := 22) (off := 1) rfl rfl cellsDk
  obtain ⟨_, y2, h2, _⟩ := field_at Tryz.underlying26 h hw 2 rfl (ft := 3) (off := 2) rfl rfl cellsIn
  obtain ⟨_, y3, h3, _⟩ := field_at Tryz.underlying26 h hw 3 rfl (ft := 3) (off := 3) rfl rfl cellsIn
  obtain ⟨_, y4, h4, _⟩ := field_at Tryz.underlying26 h hw 4 rfl (ft := 3) (off := 4) rfl rfl cellsIn
  obtain ⟨_, y5, h5, w5⟩ := field_at Tryz.underlying26 h hw 5 rfl (ft := 23) (off := 5) rfl rfl cellsSl2
  obtain ⟨_, y6, h6, w6⟩ := field_at Tryz.underlying26 h hw 6 rfl (ft := 24) (off := 6) rfl rfl cellsSl5
  obtain ⟨name, q0, ex0, _⟩ := DataW.trod_string Tryz.underlying9 h0
  obtain ⟨kind, q1, _, wf1⟩ := DataW.trod_int Tryz.underlying22 h1
  obtain ⟨aw, q2, _, wf2⟩ := DataW.trod_int Tryz.underlying3 h2
  obtain ⟨rate, q3, _, wf3⟩ := DataW.trod_int Tryz.underlying3 h3
  obtain ⟨burst, q4, _, wf4⟩ := DataW.trod_int Tryz.underlying3 h4
  obtain ⟨ca, cc, cs, e5, r5, z5, b5, m5⟩ := open_nbs h5 w5
  obtain ⟨la, lc, ls, e6, r6, z6, b6, m6⟩ := open_zs h6 w6
  have hs : name.size ≤ 140737488355328 := by
    have := w0 name.data.toList.length (by rw [ex0]; simp only [DataW.weights]; exact List.mem_singleton.2 rfl)
    unfold reachBytes at this
    have e : name.data.toList.length = name.size := Array.length_toList
    omega
  simp at q0 q1 q2 q3 q4
  subst q0 q1 q2 q3 q4 e5 e6
  have hb := byteE wf1
  exact ⟨⟨⟨name, kind, aw, rate, burst, cs, ls⟩, ca, cc, la, lc⟩, rfl, ⟨r5, r6, b5, b6, m5, m6, intE wf2, intE wf3, intE wf4, hb⟩, hs, z5, z6⟩
end Go.Proofs.YtbemfjdloeipmaaGreatDoor
