/- The document's digit and Parse. -/
import Derived.Test.YtbbnjilajkllpaaDoorVB
import Derived.Test.YtbbnjilajkllpaaDoorUF
namespace Go.Proofs.YtbbnjilajkllpaaDoor
open Go.RowKit

/- a digit of 16, as the document reads it. -/
def dgt (c : Nat) : Option Nat := if 48 ≤ c ∧ c ≤ 57 then some (c - 48) else if 97 ≤ c ∧ c ≤ 102 then some (c - 87) else none
def dgtI (c : Nat) : Int := match dgt c with | some d => (d : Int) | none => -1
theorem refDigit (c : Nat) (hc : c < 256) (w : World) :
    Calls Tryd.prog 16 #[.int .u8 (c : Int)] w fun e w' => e = .returned (.int .i64 (dgtI c)) ∧ w' = w := by
  by_cases h1 : 48 ≤ c ∧ c ≤ 57
  · obtain ⟨a0, a1⟩ := h1
    have e : dgtI c = (c : Int) - 48 := by unfold dgtI dgt; rw [if_pos ⟨a0, a1⟩]; simp; omega
    rw [e]
    clear e
    go_enter Tryd.func16, Tryd.ntmps16
    go_wp2
    go_ret
    exact ⟨by first | rfl | (congr 2; omega), rfl⟩
  · by_cases h2 : 97 ≤ c ∧ c ≤ 102
    · obtain ⟨b0, b1⟩ := h2
      have e : dgtI c = (c : Int) - 97 + 10 := by unfold dgtI dgt; rw [if_neg h1, if_pos ⟨b0, b1⟩]; simp; omega
      rw [e]
      clear e
      have n1 : ¬ (c : Int) ≤ 57 := by omega
      clear h1
      go_enter Tryd.func16, Tryd.ntmps16
      go_wp2
      all_goals go_ret
      all_goals exact ⟨by first | rfl | (congr 2; omega), rfl⟩
    · have e : dgtI c = -1 := by unfold dgtI dgt; rw [if_neg h1, if_neg h2]
      rw [e]
      clear e
      rcases Nat.lt_or_ge c 48 with hA | hA
      · have n0 : ¬ (48 : Int) ≤ (c : Int) := by omega
        have n1 : ¬ (97 : Int) ≤ (c : Int) := by omega
        clear h1 h2
        go_enter Tryd.func16, Tryd.ntmps16
        go_wp2
        all_goals go_ret
        all_goals exact ⟨rfl, rfl⟩
      · have n0 : ¬ (c : Int) ≤ 57 := by omega
        rcases Nat.lt_or_ge c 97 with hB | hB
        · have n1 : ¬ (97 : Int) ≤ (c : Int) := by omega
          clear h1 h2
          go_enter Tryd.func16, Tryd.ntmps16
          go_wp2
          all_goals go_ret
          all_goals exact ⟨rfl, rfl⟩
        · have n1 : ¬ (c : Int) ≤ 102 := by omega
          clear h1 h2
          go_enter Tryd.func16, Tryd.ntmps16
          go_wp2
          all_goals go_ret
          all_goals exact ⟨rfl, rfl⟩
/- the digits ahead, at most so many; what they come to. -/
def isDc (c : UInt8) : Bool := decide (48 ≤ c.toNat ∧ c.toNat ≤ 57)
def lead : Nat → List UInt8 → List UInt8
  | 0, _ => []
  | _ + 1, [] => []
  | k + 1, c :: l => if isDc c then c :: lead k l else []
def dcv (a : Nat) : List UInt8 → Nat
  | [] => a
  | c :: l => dcv (10 * a + (c.toNat - 48)) l
theorem lead_len : ∀ (k : Nat) (l : List UInt8), (lead k l).length ≤ k ∧ (lead k l).length ≤ l.length
  | 0, _ => by simp [lead]
  | _ + 1, [] => by simp [lead]
  | k + 1, c :: l => by
    have := lead_len k l
    unfold lead
    split <;> simp <;> omega
def hfold (a : Nat) : List UInt8 → Option Nat
  | [] => some a
  | c :: l => match dgt c.toNat with | some d => hfold ((a * 16 + d) % top) l | none => none
theorem dcv_snoc (c : UInt8) : ∀ (l : List UInt8) (a : Nat), dcv a (l ++ [c]) = 10 * dcv a l + (c.toNat - 48)
  | [], _ => rfl
  | _ :: l, _ => dcv_snoc c l _
theorem hfold_snoc (c : UInt8) : ∀ (l : List UInt8) (a : Nat), hfold a (l ++ [c]) = (hfold a l).bind fun n => match dgt c.toNat with | some d => some ((n * 16 + d) % top) | none => none
  | [], a => by
    show hfold a [c] = _
    unfold hfold
    cases dgt c.toNat <;> rfl
  | x :: l, a => by
    show hfold a (x :: (l ++ [c])) = (hfold a (x :: l)).bind _
    unfold hfold
    cases dgt x.toNat with
    | none => rfl
    | some d => exact hfold_snoc c l _
theorem dgt_dig : ∀ d : Fin 16, dgt (dig d.val).toUInt8.toNat = some d.val := by decide +kernel
theorem dc_val : ∀ d : Fin 10, (UInt8.ofNat (48 + d.val)).toNat - 48 = d.val := by decide +kernel
theorem dc_is : ∀ d : Fin 10, isDc (UInt8.ofNat (48 + d.val)) = true := by decide +kernel
theorem dcv_one (c : UInt8) : dcv 0 [c] = c.toNat - 48 := by show 10 * 0 + (c.toNat - 48) = _; omega
theorem dcv_dc (v : Nat) : dcv 0 (Lib.decDigits v) = v := by
  induction v using Nat.strongRecOn with
  | _ v ih =>
    by_cases hs : v < 10
    · rw [dc_small hs, dcv_one]
      exact dc_val ⟨v, hs⟩
    · have e : (UInt8.ofNat (48 + v % 10)).toNat - 48 = v % 10 := dc_val ⟨v % 10, Nat.mod_lt _ (by decide)⟩
      rw [dc_big hs, dcv_snoc, ih (v / 10) (by omega), e]
      omega
theorem hfold_hx (v : Nat) (h : v < 340282366920938463463374607431768211456) : hfold 0 (hx v) = some v := by
  induction v using Nat.strongRecOn with
  | _ v ih =>
    by_cases hs : v < 16
    · rw [hx_small hs]
      have e := dgt_dig ⟨v, hs⟩
      simp only at e
      simp only [hfold, e]
      congr 1; unfold top; omega
    · have e := dgt_dig ⟨v % 16, Nat.mod_lt _ (by decide)⟩
      simp only at e
      rw [hx_big hs, hfold_snoc, ih (v / 16) (by omega) (by omega)]
      simp only [Option.bind, e]
      congr 1; unfold top; omega
theorem dc_all (v : Nat) : ∀ c ∈ Lib.decDigits v, isDc c = true := by
  induction v using Nat.strongRecOn with
  | _ v ih =>
    by_cases hs : v < 10
    · rw [dc_small hs]; intro c hc; rw [List.mem_singleton] at hc; subst hc; exact dc_is ⟨v, hs⟩
    · rw [dc_big hs]
      intro c hc
      rw [List.mem_append, List.mem_singleton] at hc
      rcases hc with hc | rfl
      · exact ih _ (by omega) c hc
      · exact dc_is ⟨v % 10, Nat.mod_lt _ (by decide)⟩
theorem lead_app : ∀ (k : Nat) (l r : List UInt8), (∀ c ∈ l, isDc c = true) → l.length ≤ k → (∀ c r', r = c :: r' → isDc c = false) → lead k (l ++ r) = l
  | 0, [], r, _, _, _ => by cases r <;> rfl
  | 0, _ :: _, _, _, h, _ => by simp at h
  | k + 1, [], [], _, _, _ => rfl
  | k + 1, [], c :: r, _, _, h => by
    have := h c r rfl
    simp [lead, this]
  | k + 1, c :: l, r, h1, h2, h3 => by
    have := h1 c (by simp)
    simp only [List.cons_append, lead, this, if_true]
    rw [lead_app k l r (fun x hx => h1 x (by simp [hx])) (by simpa using h2) h3]
/- what the document reads a text as. -/
def rW (l : List UInt8) : Nat := dcv 0 (lead 3 l)
def rT (l : List UInt8) : List UInt8 := (l.drop ((lead 3 l).length + 1)).take 33
def rprs (l : List UInt8) : Option (Nat × Nat) := match hfold 0 (rT l) with
  | some v => if okN (rW l) v = true ∧ tx (rW l) v = l then some (rW l, v) else none
  | none => none
theorem rprs_eq (l : List UInt8) : rprs l = prs l := by
  cases hp : prs l with
  | none =>
    unfold rprs
    split
    · split
      · rename_i h
        have := prs_tx h.1
        rw [h.2, hp] at this; cases this
      · rfl
    · rfl
  | some p =>
    obtain ⟨n, v⟩ := p
    obtain ⟨h1, h2⟩ := prs_some hp
    have hb := okN_bd h1
    have ht := okN_ltop h1
    have hn : n ≤ 128 := by omega
    have hv : v < 340282366920938463463374607431768211456 := by unfold top at ht; exact ht
    have hlen := tx_le n v hn hv
    have e1 : lead 3 l = Lib.decDigits n := by
      rw [← h2]
      unfold tx
      exact lead_app 3 _ _ (dc_all n) (by omega) (fun c r' hr => by cases hr; decide)
    have e2 : rW l = n := by unfold rW; rw [e1, dcv_dc]
    have e3 : rT l = hx v := by
      unfold rT
      rw [e1, ← h2]
      unfold tx
      rw [List.drop_append, List.drop_of_length_le (by omega), List.nil_append, show (Lib.decDigits n).length + 1 - (Lib.decDigits n).length = 1 by omega, List.drop_one, List.tail_cons, List.take_of_length_le (by omega)]
    unfold rprs
    rw [e3, hfold_hx v hv, e2]
    simp only
    rw [if_pos ⟨h1, h2⟩]
end Go.Proofs.YtbbnjilajkllpaaDoor
