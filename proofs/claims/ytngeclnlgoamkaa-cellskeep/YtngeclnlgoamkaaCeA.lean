/- package cells: arrays as plain data, and the small questions. -/
import Derived.Test.YtngeclnlgoamkaaGnM
namespace Go.Proofs.Ytngeclnlgoamkaa
open Go.RowKit

structure Ar where
  name : ByteArray
  kind : Int
  w : Int
  rate : Int
  burst : Int
  cs : List Nb
  ls : List Int
/- An array as it lies. -/
structure ArL where
  a : Ar
  ca : Option Addr
  cc : Nat
  la : Option Addr
  lc : Nat
def ArL.cells (x : ArL) : List Value := [.string x.a.name, .int .u8 x.a.kind, .int .i64 x.a.w, .int .i64 x.a.rate, .int .i64 x.a.burst, .slice x.ca x.a.cs.length x.cc, .slice x.la x.a.ls.length x.lc]
def ArL.val (x : ArL) : Value := .agg #[.string x.a.name, .int .u8 x.a.kind, .int .i64 x.a.w, .int .i64 x.a.rate, .int .i64 x.a.burst, .slice x.ca x.a.cs.length x.cc, .slice x.la x.a.ls.length x.lc]
structure ArR (W : World) (x : ArL) : Prop where
  cs : RdN W x.ca x.a.cs
  ls : RdZ W x.la x.a.ls
  cn : x.a.cs.length ≤ 140737488355328
  ln : x.a.ls.length ≤ 140737488355328
  cr : ∀ b ∈ x.a.cs, NbR b
  lr : ∀ n ∈ x.a.ls, i64R n
  wr : i64R x.a.w
  rr : i64R x.a.rate
  br : i64R x.a.burst
  kr : 0 ≤ x.a.kind ∧ x.a.kind < 256
theorem ArR.below {W W' : World} {x : ArL} (h : ArR W x) (hb : Below W.heap.size W W') : ArR W' x := ⟨h.cs.below hb, h.ls.below hb, h.cn, h.ln, h.cr, h.lr, h.wr, h.rr, h.br, h.kr⟩
def holdsB (a : Ar) (b : Nb) : Bool := b.w == a.w && (b.ok && (!(a.kind == 5) || decide (b.lo ≤ IntKind.u64.wrap a.burst)))
def plainB (a : Ar) : Bool := a.rate == 0 && (a.burst == 0 && a.ls.length == 0)
def ticksB (a : Ar) : Bool := a.ls.length == a.cs.length && !(a.ls.any (fun n => decide (n < 0)))
def frameB (a : Ar) : Bool :=
  if a.kind = 3 then fromB 1 a.w 128 && plainB a
  else if a.kind = 4 then a.w == 64 && plainB a
  else if a.kind = 5 then a.w == 64 && (fromB 0 a.rate 65535 && (fromB 1 a.burst 65535 && ticksB a))
  else false
def mayA (a : Ar) : Bool := frameB a && (fromB 1 a.cs.length 4096 && !(a.cs.any (fun b => !holdsB a b)))
theorem cfrom_any (a n b : Int) (w : World) : Calls Try.prog 43 #[.int .i64 a, .int .i64 n, .int .i64 b] w fun e w' => e = .returned (.bool (fromB a n b)) ∧ w' = w := by
  unfold fromB
  by_cases h1 : a ≤ n
  · by_cases h2 : n ≤ b
    all_goals
      go_enter Try.func43, Try.ntmps43
      go_wp2
      go_ret
      exact ⟨by simp [h1, h2], rfl⟩
  · go_enter Try.func43, Try.ntmps43
    go_wp2
    go_ret
    exact ⟨by simp; omega, rfl⟩
theorem word_any (n : Int) : Pure 31 #[.int .u64 n] (.agg #[.int .i64 64, .int .u64 0, .int .u64 n]) := fun w => by
  go_enter Try.func31, Try.ntmps31
  go_wp2
  refine bodyPost_ret (v := .agg #[.int .i64 64, .int .u64 0, .int .u64 n]) (by simp [results, Try.results31, go_sem]) rfl ⟨rfl, ?_⟩
  first
    | exact below1 _ _
    | exact (((below1 _ _).setCell (Nat.le_refl _) _).setCell (Nat.le_refl _) _).setCell (Nat.le_refl _) _
theorem zero_eq (n : Nat) : ((n : Int) == 0) = (n == 0) := by
  cases n with
  | zero => rfl
  | succ n => rw [Bool.eq_iff_iff]; simp; omega
theorem isPlain_any (x : ArL) : Pure 48 #[x.val] (.bool (plainB x.a)) := fun w => by
  obtain ⟨⟨name, kind, aw, rate, burst, cs, ls⟩, ca, cc, la, lc⟩ := x
  simp only [ArL.val, plainB]
  cases e1 : (rate == 0) <;> cases e2 : (burst == 0)
  all_goals
    go_enter Try.func48, Try.ntmps48
    go_wp2
    go_ret
    exact ⟨by first | rfl | (simp [zero_eq]; done), below1 _ _⟩
theorem neg_any (n : Int) (w : World) : Calls Try.prog 53 #[.int .i64 n] w fun e w' => e = .returned (.bool (decide (n < 0))) ∧ w' = w := by
  go_enter Try.func53, Try.ntmps53
  go_wp2
  go_ret
  exact ⟨by simp, rfl⟩
set_option maxHeartbeats 1000000 in
theorem indexNeg_any (a : Option Addr) (cap : Nat) (l : List Int) (w : World) (hr : RdZ w a l) (hl : l.length ≤ 140737488355328) : Calls Try.prog 56 #[.slice a l.length cap, .func (.func 53) #[] #[]] w fun e w' => e = .returned (.int .i64 (firstI (fun n => decide (n < 0)) l)) ∧ w' = w := by
  have HR := hide hr
  clear hr
  go_enter Try.func56, Try.ntmps56
  go_wp2
  go_loopw [8] (fun i wr => ∃ k : Nat, k ≤ l.length ∧ i = .int .i64 k ∧ (∀ j (hj : j < k) (hj' : j < l.length), decide (l[j] < 0) = false) ∧ wr = w) (fun i _ => l.length - (intOf i).toNat)
  case atStart => exact ⟨0, by omega, rfl, fun j hj => absurd hj (by omega), rfl⟩
  case round =>
    obtain ⟨k, hk, rfl, hn, hwr⟩ := hrel
    subst wr
    have HN := hide hn
    clear hn
    by_cases hlt : k < l.length
    · obtain ⟨p, off, rfl, hp, hcl⟩ := HR.out.some (by omega)
      have q0 := hcl k hlt
      have hlI : (k : Int) < (l.length : Int) := by omega
      have HC := hide (neg_any l[k] w)
      clear hcl
      cases ho : decide (l[k] < 0)
      · have HX : Hid (∀ j (hj : j < k + 1) (hj' : j < l.length), decide (l[j] < 0) = false) := fun j hj hj' => by
          by_cases e : j = k
          · subst e; exact ho
          · exact HN.out j (by omega) hj'
        rw [ho] at HC
        clear ho
        generalize l[k] = b at q0 HC
        go_wp2_with fail
        refine HC.out.mono ?_
        rintro e w1 ⟨rfl, rfl⟩
        go_wp2
        go_roundw
        case rel => exact ⟨k + 1, by omega, by go_num, HX.out, by first | rfl | trivial⟩
        case measure => simp [intOf]; omega
      · have HH := hide (firstI_hit (p := fun n : Int => decide (n < 0)) hlt ho (fun j hj => HN.out j hj (by omega)))
        rw [ho] at HC
        clear ho
        generalize l[k] = b at q0 HC
        go_wp2_with fail
        refine HC.out.mono ?_
        rintro e w1 ⟨rfl, rfl⟩
        go_wp2
        go_ret
        exact ⟨by rw [HH.out]; rfl, rfl⟩
    · obtain rfl : k = l.length := by omega
      have HH := hide (firstI_none (p := fun n : Int => decide (n < 0)) (l := l) (fun j hj => HN.out j hj hj))
      go_wp2
      go_ret
      exact ⟨by rw [HH.out]; rfl, rfl⟩
theorem containsNeg_any (a : Option Addr) (cap : Nat) (l : List Int) (w : World) (hr : RdZ w a l) (hl : l.length ≤ 140737488355328) : Calls Try.prog 52 #[.slice a l.length cap, .func (.func 53) #[] #[]] w fun e w' => e = .returned (.bool (l.any (fun n => decide (n < 0)))) ∧ w' = w := by
  have H := hide (indexNeg_any a cap l w hr hl)
  have E := hide (firstI_any (fun n : Int => decide (n < 0)) l)
  clear hr hl
  go_enter Try.func52, Try.ntmps52
  go_wp2_with (go_at_call 56; refine H.out.mono ?_; rintro e w1 ⟨rfl, rfl⟩)
  go_ret
  exact ⟨by rw [← E.out]; simp, rfl⟩
theorem ticks_any (x : ArL) (w : World) (hx : ArR w x) : Calls Try.prog 49 #[x.val] w fun e w' => e = .returned (.bool (ticksB x.a)) ∧ Below w.heap.size w w' := by
  obtain ⟨⟨name, kind, aw, rate, burst, cs, ls⟩, ca, cc, la, lc⟩ := x
  have HC : Hid (∀ W, Below w.heap.size w W → _) := fun W hb => containsNeg_any la lc ls W (hx.ls.below hb) hx.ln
  clear hx
  simp only [ArL.val, ticksB] at *
  generalize ls.any (fun n => decide (n < 0)) = t at *
  by_cases e : ls.length = cs.length
  · have e1 : (ls.length == cs.length) = true := by simp [e]
    rw [e1]
    clear e1
    rw [e] at HC ⊢
    clear e
    go_enter Try.func49, Try.ntmps49
    go_wp2_with fail
    refine (HC.out _ (below1 _ _)).mono ?_
    rintro e w1 ⟨rfl, rfl⟩
    go_wp2
    go_ret
    exact ⟨by simp, below1 _ _⟩
  · have e1 : (ls.length == cs.length) = false := by simp [e]
    have e2 : ((ls.length : Int) == (cs.length : Int)) = false := by simp; omega
    rw [e1]
    clear e1 e
    go_enter Try.func49, Try.ntmps49
    go_wp2
    go_ret
    exact ⟨by simp, below1 _ _⟩
end Go.Proofs.Ytngeclnlgoamkaa
