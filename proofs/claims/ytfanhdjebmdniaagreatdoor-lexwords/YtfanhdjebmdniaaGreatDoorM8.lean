/- Pieces of the proof: RWa, VA, RWb, NRefs, NNumb, NRefOf. -/
import Derived.Test.YtfanhdjebmdniaaGreatDoorM7
import Derived.Test.YtfanhdjebmdniaaGreatDoorM4
import Derived.Test.YtfanhdjebmdniaaGreatDoorM3
import Derived.RegionTactic
/- The document's lex: digit, letter, run, digits. -/
namespace Go.Proofs.YtfanhdjebmdniaaGreatDoor
open Go.RowKit

theorem u8_all {P : UInt8 → Bool} (h : ∀ n : Fin 256, P (UInt8.ofNat n.val) = true) (c : UInt8) : P c = true := by
  have := h ⟨c.toNat, UInt8.toNat_lt c⟩
  simpa using this
def isL (c : UInt8) : Bool := isW c && !isD c
theorem isD_num (c : UInt8) : isD c = (decide (48 ≤ c.toNat) && decide (c.toNat ≤ 57)) := by
  have := u8_all (P := fun c => isD c == (decide (48 ≤ c.toNat) && decide (c.toNat ≤ 57))) (by decide +kernel) c
  exact eq_of_beq this
theorem isL_num (c : UInt8) : isL c = (decide (97 ≤ c.toNat) && decide (c.toNat ≤ 122) || decide (65 ≤ c.toNat) && decide (c.toNat ≤ 90) || decide (c.toNat = 95)) := by
  have := u8_all (P := fun c => isL c == (decide (97 ≤ c.toNat) && decide (c.toNat ≤ 122) || decide (65 ≤ c.toNat) && decide (c.toNat ≤ 90) || decide (c.toNat = 95))) (by decide +kernel) c
  exact eq_of_beq this
theorem isW_or (c : UInt8) : isW c = (isL c || isD c) := by
  have := u8_all (P := fun c => isW c == (isL c || isD c)) (by decide +kernel) c
  exact eq_of_beq this
theorem ret_bool {a b : Bool} (h : a = true ↔ b = true) : Ending.returned (.bool a) = Ending.returned (.bool b) := by rw [Bool.eq_iff_iff.2 h]
set_option maxRecDepth 100000 in
theorem digitR (c : UInt8) (w : World) : Calls Tryz.prog 119 #[.int .u8 (c.toNat : Int)] w fun e w' => e = .returned (.bool (isD c)) ∧ Below w.heap.size w w' := by
  rw [isD_num]
  generalize c.toNat = n
  go_enter Tryz.func119, Tryz.ntmps119
  go_wp2
  all_goals
    go_ret
    exact ⟨ret_bool (by simp; omega), Below.refl _ _⟩
set_option maxRecDepth 100000 in
theorem letterR (c : UInt8) (w : World) : Calls Tryz.prog 121 #[.int .u8 (c.toNat : Int)] w fun e w' => e = .returned (.bool (isL c)) ∧ Below w.heap.size w w' := by
  rw [isL_num]
  generalize c.toNat = n
  go_enter Tryz.func121, Tryz.ntmps121
  go_wp2
  all_goals
    go_ret
    exact ⟨ret_bool (by simp; omega), Below.refl _ _⟩
/- the place behind letters and digits. -/
def runN (s : List UInt8) (at_ : Nat) : Nat := at_ + ((s.drop at_).takeWhile isW).length
theorem runN_step {s : List UInt8} {k : Nat} (h : k < s.length) (hc : isW s[k] = true) : runN s k = runN s (k + 1) := by
  unfold runN
  rw [List.drop_eq_getElem_cons h, List.takeWhile_cons, hc]
  simp; omega
theorem runN_stop {s : List UInt8} {k : Nat} (h : k < s.length) (hc : isW s[k] = false) : runN s k = k := by
  unfold runN
  rw [List.drop_eq_getElem_cons h, List.takeWhile_cons, hc]
  simp
theorem runN_end {s : List UInt8} {k : Nat} (h : s.length ≤ k) : runN s k = k := by
  unfold runN
  rw [List.drop_eq_nil_of_le h]
  simp
set_option maxHeartbeats 1000000 in
set_option maxRecDepth 100000 in
theorem runR (s : List UInt8) (k : Nat) (w : World) (hs : s.length ≤ 1000000) (hk : k ≤ s.length) : Calls Tryz.prog 118 #[.string (txt s), .int .i64 (k : Int)] w fun e w' => e = .returned (.int .i64 (runN s k : Int)) ∧ Below w.heap.size w w' := by
  have HD : Hid (∀ c W, _) := fun c W => digitR c W
  have HLt : Hid (∀ c W, _) := fun c W => letterR c W
  obtain ⟨A, hA⟩ : ∃ A, A = txt s := ⟨_, rfl⟩
  have hAz : A.size = s.length := by rw [hA, txt_size]
  have HZ := hide hAz
  have HG : Hid (∀ (j : Nat) (h : j < A.size) (h' : j < s.length), A[j] = s[j]) := fun j h h' => by subst hA; simp [txt, ByteArray.getElem_eq_getElem_data]
  have hAm : A.size ≤ 1000000 := by omega
  rw [← hA]
  clear hA
  have hk2 : k ≤ A.size := by omega
  clear hAz hs hk
  obtain ⟨R, hR⟩ : ∃ R, R = runN s k := ⟨_, rfl⟩
  have HR := hide hR
  rw [← hR]
  clear hR
  go_enter Tryz.func118, Tryz.ntmps118
  go_wp2
  go_loopw [1] (fun vi wr => ∃ j : Nat, vi = .int .i64 (j : Int) ∧ j ≤ A.size ∧ Hid (R = runN s j) ∧ Hid (Below w.heap.size w wr)) (fun vi _ => A.size - (intOf vi).toNat)
  case atStart => exact ⟨k, rfl, hk2, HR, Below.refl _ _⟩
  case round =>
    obtain ⟨j, rfl, hj, HJ, HB⟩ := hrel
    by_cases hlt : j < A.size
    · have hI : (j : Int) < (A.size : Int) := by omega
      have hltl : j < s.length := by rw [← HZ.out]; exact hlt
      have hg := HG.out j hlt hltl
      go_wp2_with fail
      refine (HLt.out s[j] _).mono ?_
      rintro e w1 ⟨rfl, hb⟩
      have B1 := hide (HB.out.trans (hb.mono HB.out.size))
      clear hb
      cases hl : isL s[j] with
      | true =>
        have hw : isW s[j] = true := by rw [isW_or, hl]; rfl
        have HJ2 : Hid (R = runN s (j + 1)) := by unfold Hid; rw [HJ.out, runN_step hltl hw]
        clear hw hg hl HJ
        go_wp2
        exact ⟨⟨j + 1, by congr 1, by omega, HJ2, B1⟩, by simp [intOf]; omega⟩
      | false =>
        go_wp2_with fail
        refine (HD.out s[j] _).mono ?_
        rintro e w2 ⟨rfl, hb⟩
        have B2 := hide (B1.out.trans (hb.mono B1.out.size))
        clear hb
        cases hd : isD s[j] with
        | true =>
          have hw : isW s[j] = true := by rw [isW_or, hd]; simp
          have HJ2 : Hid (R = runN s (j + 1)) := by unfold Hid; rw [HJ.out, runN_step hltl hw]
          clear hw hg hl hd HJ
          go_wp2
          exact ⟨⟨j + 1, by congr 1, by omega, HJ2, B2⟩, by simp [intOf]; omega⟩
        | false =>
          have hw : isW s[j] = false := by rw [isW_or, hl, hd]; rfl
          have HJ2 : Hid (R = j) := by unfold Hid; rw [HJ.out, runN_stop hltl hw]
          clear hw hg hl hd HJ
          go_wp2
          go_ret
          exact ⟨by rw [HJ2.out]; rfl, B2.out⟩
    · have hI : ¬ ((j : Int) < (A.size : Int)) := by omega
      go_wp2
      go_ret
      exact ⟨by rw [HJ.out, runN_end (by rw [← HZ.out]; omega)]; rfl, HB.out⟩
set_option maxHeartbeats 1000000 in
set_option maxRecDepth 100000 in
theorem digitsR (s : List UInt8) (w : World) (hs : s.length ≤ 1000000) : Calls Tryz.prog 200 #[.string (txt s)] w fun e w' => e = .returned (.bool (s.all isD)) ∧ Below w.heap.size w w' := by
  have HD : Hid (∀ c W, _) := fun c W => digitR c W
  obtain ⟨A, hA⟩ : ∃ A, A = txt s := ⟨_, rfl⟩
  have hAz : A.size = s.length := by rw [hA, txt_size]
  have HZ := hide hAz
  have HG : Hid (∀ (j : Nat) (h : j < A.size) (h' : j < s.length), A[j] = s[j]) := fun j h h' => by subst hA; simp [txt, ByteArray.getElem_eq_getElem_data]
  have hAm : A.size ≤ 1000000 := by omega
  rw [← hA]
  clear hA hAz hs
  go_enter Tryz.func200, Tryz.ntmps200
  go_wp2
  go_loopw [3] (fun vi wr => ∃ j : Nat, vi = .int .i64 (j : Int) ∧ j ≤ A.size ∧ Hid ((s.take j).all isD = true) ∧ Hid (Below w.heap.size w wr)) (fun vi _ => A.size - (intOf vi).toNat)
  case atStart => exact ⟨0, rfl, by omega, rfl, Below.refl _ _⟩
  case round =>
    obtain ⟨j, rfl, hj, HJ, HB⟩ := hrel
    by_cases hlt : j < A.size
    · have hI : (j : Int) < (A.size : Int) := by omega
      have hltl : j < s.length := by rw [← HZ.out]; exact hlt
      have hg := HG.out j hlt hltl
      go_wp2_with fail
      refine (HD.out s[j] _).mono ?_
      rintro e w2 ⟨rfl, hb⟩
      have B2 := hide (HB.out.trans (hb.mono HB.out.size))
      clear hb
      cases hd : isD s[j] with
      | true =>
        have HJ2 : Hid ((s.take (j + 1)).all isD = true) := by
          unfold Hid; rw [List.take_succ_eq_append_getElem hltl, List.all_append, HJ.out]; simp [hd]
        clear hg hd HJ
        go_wp2
        exact ⟨⟨j + 1, by congr 1, by omega, HJ2, B2⟩, by simp [intOf]; omega⟩
      | false =>
        have HJ2 : Hid (s.all isD = false) := by
          unfold Hid
          rw [List.all_eq_false]
          exact ⟨s[j], List.getElem_mem _, by rw [hd]; decide⟩
        clear hg hd HJ
        go_wp2
        go_ret
        exact ⟨by rw [HJ2.out]; rfl, B2.out⟩
    · have hI : ¬ ((j : Int) < (A.size : Int)) := by omega
      have HJ2 : Hid (s.all isD = true) := by
        have := HJ.out
        rw [List.take_of_length_le (by rw [← HZ.out]; omega)] at this
        exact this
      clear HJ
      go_wp2
      go_ret
      exact ⟨by rw [HJ2.out]; rfl, HB.out⟩
end Go.Proofs.YtfanhdjebmdniaaGreatDoor
/- The document's Digits. -/
namespace Go.Proofs.YtfanhdjebmdniaaGreatDoor
open Go.RowKit

def tenS : ByteArray := ⟨#[48, 49, 50, 51, 52, 53, 54, 55, 56, 57]⟩
theorem ext10 : ∀ x : Fin 10, tenS.extract x.val (x.val + 1) = txt [UInt8.ofNat (48 + x.val)] := by decide +kernel
theorem ext10' {x : Nat} (h : x < 10) : tenS.extract x (x + 1) = txt [UInt8.ofNat (48 + x)] := ext10 ⟨x, h⟩
theorem dc_len : ∀ (k v : Nat), v < 10 ^ (k + 1) → (Lib.decDigits v).length ≤ k + 1
  | 0, v, h => by rw [dc_small (by simpa using h)]; simp
  | k + 1, v, h => by
    by_cases hs : v < 10
    · rw [dc_small hs]; simp
    · rw [dc_big hs, List.length_append]
      have := dc_len k (v / 10) (by rw [Nat.pow_succ] at h; omega)
      simp; omega
set_option maxRecDepth 100000 in
theorem refDigits (N : Nat) (hN : N < 10000000000) (w : World) :
    Calls Tryz.prog 225 #[.int .i64 N] w fun e w' => e = .returned (.string (txt (Lib.decDigits N))) ∧ w' = w := by
  have HLN := hide (dc_len 9 N (by omega))
  generalize hD : Lib.decDigits N = D at HLN ⊢
  have HD := hide hD
  clear hD
  have hwf : Hid (N < 10000000000) := hN
  clear hN
  go_enter Tryz.func225, Tryz.ntmps225
  go_wp2
  go_loop [0, 3] (fun vn vs => ∃ (n : Nat) (l : List UInt8) (S : ByteArray), vn = .int .i64 (n : Int) ∧ vs = .string S ∧ n < 10000000000 ∧ Hid (S = txt l ∧ D = Lib.decDigits n ++ l)) (fun vn _ => (intOf vn).toNat)
  case atStart => exact ⟨N, [], ⟨#[]⟩, rfl, rfl, hwf.out, rfl, by rw [← HD.out]; simp⟩
  case round =>
    obtain ⟨n, l, S, rfl, rfl, hn, HS⟩ := hrel
    have hSs : S.size ≤ 20 := by
      obtain ⟨h1, h2⟩ := HS.out
      have := HLN.out
      rw [h2, List.length_append] at this
      rw [h1, txt_size]; omega
    have hs1 : ¬ 9223372036854775807 < 1 + S.size := by omega
    by_cases hb : 9 < n
    · have HN : Hid (tenS.extract (n % 10) (n % 10 + 1) ++ S = txt (UInt8.ofNat (48 + n % 10) :: l) ∧ D = Lib.decDigits (n / 10) ++ (UInt8.ofNat (48 + n % 10) :: l)) := by
        obtain ⟨h1, h2⟩ := HS.out
        refine ⟨by rw [ext10' (by omega), h1, cat_txt]; rfl, ?_⟩
        rw [h2, dc_big (by omega), List.append_assoc]; rfl
      clear HS
      go_wp2
      exact ⟨⟨n / 10, _, _, by congr 1, rfl, by omega, HN⟩, by simp [intOf]; omega⟩
    · have HN : Hid (tenS.extract n (n + 1) ++ S = txt D) := by
        obtain ⟨h1, h2⟩ := HS.out
        unfold Hid
        rw [ext10' (by omega), h1, cat_txt, h2, dc_small (by omega)]
      clear HS
      have hn10 : n < 10 := by omega
      go_wp2
      go_ret
      exact ⟨by rw [← HN.out]; rfl, rfl⟩
end Go.Proofs.YtfanhdjebmdniaaGreatDoor
/- The document's lex: whole. -/
namespace Go.Proofs.YtfanhdjebmdniaaGreatDoor
open Go.RowKit

def dvl (l : List UInt8) : Nat := l.foldl (fun n c => 10 * n + (c.toNat - 48)) 0
theorem dvl_snoc (l : List UInt8) (c : UInt8) : dvl (l ++ [c]) = 10 * dvl l + (c.toNat - 48) := by simp [dvl]
theorem dvl_dc (n : Nat) : dvl (Lib.decDigits n) = n := by
  have h : ∀ d : Fin 10, (UInt8.ofNat (48 + d.val)).toNat - 48 = d.val := by decide +kernel
  induction n using Nat.strongRecOn with
  | _ n ih =>
    by_cases hs : n < 10
    · rw [dc_small hs]
      have := h ⟨n, hs⟩
      simp only [dvl, List.foldl_cons, List.foldl_nil] at *
      omega
    · rw [dc_big hs, dvl_snoc, ih _ (by omega)]
      have := h ⟨n % 10, Nat.mod_lt _ (by decide)⟩
      simp only at this
      omega
theorem dvl_take {l : List UInt8} {j : Nat} (h : j < l.length) : dvl (l.take (j + 1)) = 10 * dvl (l.take j) + (l[j].toNat - 48) := by
  rw [List.take_succ_eq_append_getElem h, dvl_snoc]
theorem dvl_ltA : ∀ (l : List UInt8) (acc : Nat), (∀ c ∈ l, isD c = true) → l.foldl (fun n c => 10 * n + (c.toNat - 48)) acc < (acc + 1) * 10 ^ l.length
  | [], acc, _ => by simp
  | c :: l, acc, h => by
    have h1 := dvl_ltA l (10 * acc + (c.toNat - 48)) (fun x hx => h x (by simp [hx]))
    have hc := h c (by simp)
    rw [isD_num] at hc
    simp at hc
    rw [List.foldl_cons, List.length_cons, Nat.pow_succ]
    have h2 : 10 * acc + (c.toNat - 48) + 1 ≤ 10 * (acc + 1) := by omega
    have h3 := Nat.mul_le_mul_right (10 ^ l.length) h2
    have h4 : (acc + 1) * (10 ^ l.length * 10) = 10 * (acc + 1) * 10 ^ l.length := by rw [Nat.mul_comm (10 ^ l.length) 10, ← Nat.mul_assoc, Nat.mul_comm (acc + 1) 10]
    rw [h4]
    exact Nat.lt_of_lt_of_le h1 h3
theorem dvl_lt (l : List UInt8) (h : ∀ c ∈ l, isD c = true) : dvl l < 10 ^ l.length := by
  have := dvl_ltA l 0 h
  rw [Nat.zero_add, Nat.one_mul] at this
  exact this
theorem dvl_lt12 {s : List UInt8} (h : ∀ c ∈ s, isD c = true) {j : Nat} (hj : j ≤ 12) : dvl (s.take j) < 1000000000000 := by
  have h1 := dvl_lt (s.take j) (fun c hc => h c (List.mem_of_mem_take hc))
  have h2 : (s.take j).length ≤ 12 := by simp; omega
  have h3 : 10 ^ (s.take j).length ≤ 10 ^ 12 := Nat.pow_le_pow_right (by decide) h2
  omega
theorem whole_dcR {n : Nat} (h : n ≤ 2147483647) : wholeW (Lib.decDigits n) = some ⟨2, [], 64, n⟩ := by
  have e : puE 2147483647 (Lib.decDigits n) 10 = .ok n := by
    have h2 := pu_dc 2147483647 n h
    cases hd : Lib.decDigits n with
    | nil => exact absurd hd (dc_nil n)
    | cons c l => rw [hd] at h2; exact h2
  unfold wholeW
  rw [e]
  simp
theorem whole_iff (s : List UInt8) : (decide (dvl (s.take 12) ≤ 2147483647) && decide (Lib.decDigits (dvl (s.take 12)) = s)) = (wholeW s).isSome ∧ (∀ x, wholeW s = some x → x = ⟨2, [], 64, dvl (s.take 12)⟩) := by
  cases hw : wholeW s with
  | none =>
    refine ⟨?_, fun x h => by cases h⟩
    cases hb : (decide (dvl (s.take 12) ≤ 2147483647) && decide (Lib.decDigits (dvl (s.take 12)) = s)) with
    | false => rfl
    | true =>
      simp at hb
      have := whole_dcR hb.1
      rw [hb.2, hw] at this
      cases this
  | some x =>
    have hx := hw
    unfold wholeW at hw
    split at hw
    · rename_i n hn
      split at hw
      · rename_i hd
        injection hw with hw
        have hn31 := puE_lt31 hn
        have hl : s.length ≤ 12 := by rw [← hd]; have := dc_len 9 n (by omega); omega
        have ht : s.take 12 = s := List.take_of_length_le hl
        have hv : dvl (s.take 12) = n := by rw [ht, ← hd, dvl_dc]
        rw [hv]
        refine ⟨by simp [hn31, hd], fun y hy => ?_⟩
        injection hy with hy
        rw [← hy, ← hw]
      · cases hw
    · cases hw
set_option maxHeartbeats 1000000 in
set_option maxRecDepth 100000 in
theorem wholeR (s : List UInt8) (w : World) (hs : s.length ≤ 1000000) (hd : ∀ c ∈ s, isD c = true) : Calls Tryz.prog 201 #[.string (txt s)] w fun e w' => e = .returned (.tuple #[.int .i64 (dvl (s.take 12) : Int), .bool (wholeW s).isSome]) ∧ Below w.heap.size w w' := by
  have HD : Hid (∀ c W, _) := fun c W => digitR c W
  obtain ⟨e1, _⟩ := whole_iff s
  have HE := hide e1
  clear e1
  obtain ⟨A, hA⟩ : ∃ A, A = txt s := ⟨_, rfl⟩
  have HA := hide hA
  have hAz : A.size = s.length := by rw [hA, txt_size]
  have HZ := hide hAz
  have HG : Hid (∀ (j : Nat) (h : j < A.size) (h' : j < s.length), A[j] = s[j]) := fun j h h' => by subst hA; simp [txt, ByteArray.getElem_eq_getElem_data]
  have hAm : A.size ≤ 1000000 := by omega
  have HS := hide hd
  rw [← hA]
  clear hA hAz hs hd
  go_enter Tryz.func201, Tryz.ntmps201
  go_wp2
  go_loopw [4, 5] (fun vn vi wr => ∃ j n : Nat, vn = .int .i64 (n : Int) ∧ vi = .int .i64 (j : Int) ∧ j ≤ A.size ∧ j ≤ 12 ∧ n < 1000000000000 ∧ Hid (n = dvl (s.take j)) ∧ Hid (Below w.heap.size w wr)) (fun _ vi _ => A.size - (intOf vi).toNat)
  case atStart => exact ⟨0, 0, rfl, rfl, by omega, by omega, by omega, rfl, Below.refl _ _⟩
  case round =>
    obtain ⟨j, n, rfl, rfl, hj, hj12, hn, HN, HB⟩ := hrel
    by_cases hlt : j < A.size ∧ j < 12
    · obtain ⟨hlt, h12⟩ := hlt
      have hI : (j : Int) < (A.size : Int) := by omega
      have hI2 : (j : Int) < 12 := by omega
      have hltl : j < s.length := by rw [← HZ.out]; exact hlt
      have hg := HG.out j hlt hltl
      have hD := HS.out s[j] (List.getElem_mem _)
      have HD1 : Hid (∀ W, _) := fun W => HD.out s[j] W
      rw [hD] at HD1
      rw [isD_num] at hD
      simp at hD
      obtain ⟨hd1, hd2⟩ := hD
      have hN2 := dvl_take hltl
      rw [← HN.out] at hN2
      have HN2 := hide hN2
      have hb2 := dvl_lt12 HS.out (j := j + 1) (by omega)
      rw [hN2] at hb2
      clear hN2 HN
      generalize hcj : s[j] = cj at *
      clear hcj
      go_wp2_with fail
      refine (HD1.out _).mono ?_
      rintro e w1 ⟨rfl, hb⟩
      have B1 := hide (HB.out.trans (hb.mono HB.out.size))
      clear hb HD1
      go_wp2
      refine ⟨⟨j + 1, 10 * n + (cj.toNat - 48), by congr 1; omega, by congr 1, by omega, by omega, hb2, ?_, B1⟩, by simp [intOf]; omega⟩
      exact HN2.out.symm
    · by_cases hlt2 : j < A.size
      · have hI : (j : Int) < (A.size : Int) := by omega
        have hI2 : ¬ ((j : Int) < 12) := by omega
        obtain rfl : j = 12 := by omega
        have HN12 := HN
        clear HN
        by_cases h31 : n ≤ 2147483647
        · have h31I : (n : Int) ≤ 2147483647 := by omega
          have HR : Hid (∀ W, _) := fun W => refDigits n (by omega) W
          by_cases heq : Lib.decDigits n = s
          · have HO : Hid ((wholeW s).isSome = true) := by unfold Hid; rw [← HE.out, ← HN12.out]; simp [h31, heq]
            rw [heq, ← HA.out] at HR
            clear HE heq
            go_wp2_with fail
            refine (HR.out _).mono ?_
            rintro e w1 ⟨rfl, rfl⟩
            go_wp2
            go_ret2
            exact ⟨by rw [HO.out, ← HN12.out]; rfl, HB.out⟩
          · have HO : Hid ((wholeW s).isSome = false) := by unfold Hid; rw [← HE.out, ← HN12.out]; simp [heq]
            have hne := txt_ne heq
            rw [← HA.out] at hne
            clear HE heq
            generalize txt (Lib.decDigits n) = TD at *
            go_wp2_with fail
            refine (HR.out _).mono ?_
            rintro e w1 ⟨rfl, rfl⟩
            go_wp2
            go_ret2
            exact ⟨by rw [HO.out, ← HN12.out]; rfl, HB.out⟩
        · have h31I : ¬ ((n : Int) ≤ 2147483647) := by omega
          have HO : Hid ((wholeW s).isSome = false) := by unfold Hid; rw [← HE.out, ← HN12.out]; simp [h31]
          clear HE
          go_wp2
          go_ret2
          exact ⟨by rw [HO.out, ← HN12.out]; rfl, HB.out⟩
      · have hI : ¬ (j : Int) < (A.size : Int) := by omega
        have HN12 : Hid (n = dvl (s.take 12)) := by
          have hz := HZ.out
          have h1 : s.take j = s := List.take_of_length_le (by omega)
          have h2 : s.take 12 = s := List.take_of_length_le (by omega)
          have := HN.out
          rw [h1] at this
          unfold Hid
          rw [h2]; exact this
        clear HN
        by_cases h31 : n ≤ 2147483647
        · have h31I : (n : Int) ≤ 2147483647 := by omega
          have HR : Hid (∀ W, _) := fun W => refDigits n (by omega) W
          by_cases heq : Lib.decDigits n = s
          · have HO : Hid ((wholeW s).isSome = true) := by unfold Hid; rw [← HE.out, ← HN12.out]; simp [h31, heq]
            rw [heq, ← HA.out] at HR
            clear HE heq
            go_wp2_with fail
            refine (HR.out _).mono ?_
            rintro e w1 ⟨rfl, rfl⟩
            go_wp2
            go_ret2
            exact ⟨by rw [HO.out, ← HN12.out]; rfl, HB.out⟩
          · have HO : Hid ((wholeW s).isSome = false) := by unfold Hid; rw [← HE.out, ← HN12.out]; simp [heq]
            have hne := txt_ne heq
            rw [← HA.out] at hne
            clear HE heq
            generalize txt (Lib.decDigits n) = TD at *
            go_wp2_with fail
            refine (HR.out _).mono ?_
            rintro e w1 ⟨rfl, rfl⟩
            go_wp2
            go_ret2
            exact ⟨by rw [HO.out, ← HN12.out]; rfl, HB.out⟩
        · have h31I : ¬ ((n : Int) ≤ 2147483647) := by omega
          have HO : Hid ((wholeW s).isSome = false) := by unfold Hid; rw [← HE.out, ← HN12.out]; simp [h31]
          clear HE
          go_wp2
          go_ret2
          exact ⟨by rw [HO.out, ← HN12.out]; rfl, HB.out⟩
end Go.Proofs.YtfanhdjebmdniaaGreatDoor
/- The walks of the document's own Bits and Number. -/
namespace Go.Proofs.YtfanhdjebmdniaaGreatDoor
open Go.RowKit

theorem Tryz.info4 : (Tryz.prog.info? 4).map (fun i => (i.zero, i.size, i.bytes)) = some (some (.bool false), 1, 1) := by kernel_rfl

theorem bool_one (b : Bool) : ∀ u ∈ [Value.bool b], u.oneCell' = true := by intro u hu; simp at hu; subst hu; rfl
theorem own_below {B : Nat} {e : TypeId} {w0 wr w1 : World} {u : Value} {k : Nat} {L : List Value} {o : Obj} (hown : wr.ownsRow B e 1 u k L) (hgrow : (wr.alloc o).grownBy w1 u.ownBlock) (hnx : Below B w0 wr) (hB : B ≤ wr.heap.size) : Below B w0 w1 :=
  (hnx.alloc hB o).grown hgrow (by simp; omega) (fun k e => (hown.lt k e).1)
theorem bits_own {B : Nat} {w1 : World} {v : Value} {hi lo : Int} {k : Nat} {X : Bool} (h : w1.ownsRow B 4 1 v (k + 1) ((bitsTo hi lo k).map Value.bool ++ [.bool X])) (hX : X = bitB hi lo k) : w1.ownsRow B 4 1 v (k + 1) ((bitsTo hi lo (k + 1)).map Value.bool) := by
  rw [bitsTo_succ, List.map_append, ← hX]; exact h

set_option maxHeartbeats 1000000 in
theorem refBits_any (n hi lo : Int) (w : World) (a0 : 0 ≤ hi) (a1 : hi < 18446744073709551616) (b0 : 0 ≤ lo) (b1 : lo < 18446744073709551616) :
    Calls Tryz.prog 247 #[.agg #[.int .i64 n, .int .u64 hi, .int .u64 lo]] w fun e w' =>
      ∃ v, e = .returned v ∧ w'.ownsRow (w.heap.size + 1) 4 1 v (min n 128).toNat ((bitsTo hi lo (min n 128).toNat).map Value.bool) ∧ Below w.heap.size w w' := by
  obtain ⟨i0, hi0, hz0, hz1, hz2⟩ := info_parts Tryz.info4
  go_enter Tryz.func247, Tryz.ntmps247
  go_wp2
  go_loopw [3, 4] (fun v i wr => ∃ k : Nat, (k ≤ (min n 128).toNat) ∧ i = .int .i64 k ∧ wr.ownsRow (w.heap.size + 1) 4 1 v k ((bitsTo hi lo k).map Value.bool) ∧ Below (w.heap.size + 1) (w.alloc (.cells #[.int .i64 n, .int .u64 hi, .int .u64 lo] 66)) wr)
    (fun _ i _ => 128 - (intOf i).toNat)
  case atStart => exact ⟨0, Nat.zero_le _, rfl, World.ownsRow_nil _ _ _ _, Below.refl _ _⟩
  case round =>
    obtain ⟨k, hk, rfl, hown, hnx⟩ := hrel
    have c0 : wr.cell? ⟨w.heap.size, 0, none⟩ = some (.int .i64 n) := by rw [hnx.cell (by simp)]; simp [go_sem]
    have c1 : wr.cell? ⟨w.heap.size, 1, none⟩ = some (.int .u64 hi) := by rw [hnx.cell (by simp)]; simp [go_sem]
    have c2 : wr.cell? ⟨w.heap.size, 2, none⟩ = some (.int .u64 lo) := by rw [hnx.cell (by simp)]; simp [go_sem]
    have hsz := hnx.size
    by_cases hlt : (k : Int) < n
    · by_cases h128 : (k : Int) < 128
      · by_cases h64 : (k : Int) < 64
        · go_wp2_with (at_builtin; refine wpList_append_own _ rfl _ _ 349 rfl (w.heap.size + 1) 4 i0 (.bool false) 1 1 Tryz.underlying349 hi0 hz0 hz1 hz2 rfl (by decide) _ _ _ rfl (hown.alloc _) ⟨wr.heap.size, 0, none⟩ 1 1 [.bool (bits .and .u64 (lo / 2 ^ k) 1 == 1)] rfl rfl (cell_one_new _ _ _) (bool_one _) (by unfold maxLen; omega) (by omega) (by simp at hsz ⊢; omega) ?_)
          intro v' w1 hown' hgrow _
          have hr1 : Hid (w1.ownsRow (w.heap.size + 1) 4 1 v' (k + 1) ((bitsTo hi lo (k + 1)).map Value.bool)) := bits_own hown' (bit_lo hi lo k h64 b0 b1)
          have hr2 : Hid (Below (w.heap.size + 1) (w.alloc (.cells #[.int .i64 n, .int .u64 hi, .int .u64 lo] 66)) w1) := own_below hown hgrow hnx (by simp at hsz; omega)
          clear hown hown' hgrow hnx c0 c1 c2
          go_wp2
          go_roundw
          case rel => exact ⟨k + 1, by omega, by go_num, hr1.out, hr2.out⟩
          case measure => simp [intOf]; omega
        · go_wp2_with (at_builtin; refine wpList_append_own _ rfl _ _ 349 rfl (w.heap.size + 1) 4 i0 (.bool false) 1 1 Tryz.underlying349 hi0 hz0 hz1 hz2 rfl (by decide) _ _ _ rfl (hown.alloc _) ⟨wr.heap.size, 0, none⟩ 1 1 [.bool (bits .and .u64 (hi / 2 ^ (k - 64)) 1 == 1)] rfl rfl (cell_one_new _ _ _) (bool_one _) (by unfold maxLen; omega) (by omega) (by simp at hsz ⊢; omega) ?_)
          intro v' w1 hown' hgrow _
          have hr1 : Hid (w1.ownsRow (w.heap.size + 1) 4 1 v' (k + 1) ((bitsTo hi lo (k + 1)).map Value.bool)) := bits_own hown' (bit_hi hi lo k (by omega) a0 a1)
          have hr2 : Hid (Below (w.heap.size + 1) (w.alloc (.cells #[.int .i64 n, .int .u64 hi, .int .u64 lo] 66)) w1) := own_below hown hgrow hnx (by simp at hsz; omega)
          clear hown hown' hgrow hnx c0 c1 c2
          go_wp2
          go_roundw
          case rel => exact ⟨k + 1, by omega, by go_num, hr1.out, hr2.out⟩
          case measure => simp [intOf]; omega
      · have hkk : Hid (k = (min n 128).toNat) := by unfold Hid; omega
        have hf : Hid (Below w.heap.size w wr) := ((Below.refl _ _).alloc (Nat.le_refl _) _).trans (hnx.mono (by omega))
        clear hnx hk
        go_wp2
        go_ret
        exact ⟨_, rfl, by rw [← hkk.out]; exact hown, hf.out⟩
    · have hkk : Hid (k = (min n 128).toNat) := by unfold Hid; omega
      have hf : Hid (Below w.heap.size w wr) := ((Below.refl _ _).alloc (Nat.le_refl _) _).trans (hnx.mono (by omega))
      clear hnx hk
      have hlt' : decide ((k : Int) < n) = false := by simpa using hlt
      go_wp2
      go_ret
      exact ⟨_, rfl, by rw [← hkk.out]; exact hown, hf.out⟩
end Go.Proofs.YtfanhdjebmdniaaGreatDoor
/- The walk of the document's own Number. -/
namespace Go.Proofs.YtfanhdjebmdniaaGreatDoor
open Go.RowKit

/- A slice of bools that can be read in w: nil, or its cells are these. -/
def BRow (w : World) (v : Value) (l : List Bool) : Prop :=
  (v = .slice none 0 0 ∧ l = []) ∨ ∃ b off cap, v = .slice (some ⟨b, off, none⟩) l.length cap ∧ ∀ i (h : i < l.length), w.cell? ⟨b, off + i, none⟩ = some (.bool l[i])

theorem blk_set {w : World} {b : Nat} {cs : Array Value} {t : TypeId} (h : w.heap[b]? = some (.cells cs t (0, 0))) (j : Nat) (u : Value) : (w.setCell ⟨b, j, none⟩ u).heap[b]? = some (.cells (cs.setIfInBounds j u) t (0, 0)) := by
  have hlt := lt_of_block h
  have h' : w.heap[b] = .cells cs t (0, 0) := by simpa [Array.getElem?_eq_getElem hlt] using h
  show (w.heap.modify b _)[b]? = _
  rw [Array.getElem?_eq_getElem (by simpa using hlt), Array.getElem_modify_self, h']
  rfl
theorem blk3 {w : World} {b : Nat} {x y z : Value} {t : TypeId} (h : w.heap[b]? = some (.cells #[x, y, z] t (0, 0))) :
    w.cell? ⟨b, 0, none⟩ = some x ∧ w.cell? ⟨b, 1, none⟩ = some y ∧ w.cell? ⟨b, 2, none⟩ = some z ∧ w.frozen? ⟨b, 0, none⟩ = false ∧ w.frozen? ⟨b, 1, none⟩ = false ∧ w.frozen? ⟨b, 2, none⟩ = false := by
  simp [World.cell?, World.frozen?, h]
theorem blk_new (w : World) (cs : Array Value) (t : TypeId) : (w.alloc (.cells cs t)).heap[w.heap.size]? = some (.cells cs t (0, 0)) := heap_alloc_new w _

theorem num_none {wr : World} {B k : Nat} {l : List Bool} (h : wr.heap[B]? = some (.cells #[.int .i64 l.length, .int .u64 (numHi (l.take k)), .int .u64 (numLo (l.take k))] 66 (0, 0))) (hlt : k < l.length) (hb : l[k] = false) :
    wr.heap[B]? = some (.cells #[.int .i64 l.length, .int .u64 (numHi (l.take (k + 1))), .int .u64 (numLo (l.take (k + 1)))] 66 (0, 0)) := by
  have e1 : numLo (l.take (k + 1)) = numLo (l.take k) := by
    by_cases h : k < 64
    · rw [numLo_take_set l k hlt h, hb]; simp
    · exact numLo_take_same l k (by omega)
  have e2 : numHi (l.take (k + 1)) = numHi (l.take k) := by
    by_cases h : k < 64
    · rw [numHi_take_low l k (by omega), numHi_take_low l (k + 1) (by omega)]
    · by_cases h2 : k < 128
      · rw [numHi_take_set l k hlt (by omega) h2, hb]; simp
      · exact numHi_take_same l k (by omega)
  rw [e1, e2]; exact h
theorem num_lo {wr : World} {B k : Nat} {l : List Bool} (h : wr.heap[B]? = some (.cells #[.int .i64 l.length, .int .u64 (numHi (l.take k)), .int .u64 (numLo (l.take k))] 66 (0, 0))) (hlt : k < l.length) (hb : l[k] = true) (h64 : k < 64) :
    (wr.setCell ⟨B, 2, none⟩ (.int .u64 (bits .or .u64 (numLo (l.take k)) (IntKind.u64.wrap (2 ^ k))))).drew.heap[B]? = some (.cells #[.int .i64 l.length, .int .u64 (numHi (l.take (k + 1))), .int .u64 (numLo (l.take (k + 1)))] 66 (0, 0)) := by
  have e2 : numHi (l.take (k + 1)) = numHi (l.take k) := by rw [numHi_take_low l k (by omega), numHi_take_low l (k + 1) (by omega)]
  rw [lo_set l k hlt hb h64, e2]
  exact blk_set h 2 _
theorem num_hi {wr : World} {B k : Nat} {l : List Bool} (h : wr.heap[B]? = some (.cells #[.int .i64 l.length, .int .u64 (numHi (l.take k)), .int .u64 (numLo (l.take k))] 66 (0, 0))) (hlt : k < l.length) (hb : l[k] = true) (h64 : 64 ≤ k) (h128 : k < 128) :
    (wr.setCell ⟨B, 1, none⟩ (.int .u64 (bits .or .u64 (numHi (l.take k)) (IntKind.u64.wrap (2 ^ (k - 64)))))).drew.heap[B]? = some (.cells #[.int .i64 l.length, .int .u64 (numHi (l.take (k + 1))), .int .u64 (numLo (l.take (k + 1)))] 66 (0, 0)) := by
  rw [hi_set l k hlt hb h64 h128, numLo_take_same l k h64]
  exact blk_set h 1 _

set_option maxHeartbeats 1000000 in
theorem refNumber_row (l : List Bool) (hl : l.length ≤ 128) (b off cap : Nat) (w : World) (hc : ∀ i (h : i < l.length), w.cell? ⟨b, off + i, none⟩ = some (.bool l[i])) :
    Calls Tryz.prog 277 #[.slice (some ⟨b, off, none⟩) l.length cap] w fun e w' =>
      e = .returned (.agg #[.int .i64 l.length, .int .u64 (numHi l), .int .u64 (numLo l)]) ∧ Below w.heap.size w w' := by
  go_enter Tryz.func277, Tryz.ntmps277
  go_wp2
  go_loopw [4] (fun i wr => ∃ k : Nat, k ≤ l.length ∧ i = .int .i64 k ∧ Below (w.heap.size + 1) (w.alloc (.cells #[.int .i64 0, .int .u64 0, .int .u64 0] 66)) wr ∧
      wr.heap[w.heap.size + 1]? = some (.cells #[.int .i64 l.length, .int .u64 (numHi (l.take k)), .int .u64 (numLo (l.take k))] 66 (0, 0)))
    (fun i _ => l.length - (intOf i).toNat)
  case atStart => exact ⟨0, Nat.zero_le _, rfl, (Below.refl _ _).alloc (by simp) _, by have := blk_new (w.alloc (.cells #[.int .i64 0, .int .u64 0, .int .u64 0] 66)) #[.int .i64 l.length, .int .u64 0, .int .u64 0] 66; simpa [numHi_nil, numLo_nil] using this⟩
  case round =>
    obtain ⟨k, hk, rfl, hnx, hblk⟩ := hrel
    obtain ⟨d0, d1, d2, f0, f1, f2⟩ := blk3 hblk
    by_cases hlt : k < l.length
    · have hck : wr.cell? ⟨b, off + k, none⟩ = some (.bool l[k]) := by
        have h1 := hc k hlt
        have h2 := World.block_lt_of_cell? w _ h1
        rw [hnx.cell (by exact Nat.lt_succ_of_lt h2)]
        rw [← h1]
        exact World.cell?_alloc_past _ _ _ h2
      have HB : Hid (wr.heap[w.heap.size + 1]? = some (.cells #[.int .i64 l.length, .int .u64 (numHi (l.take k)), .int .u64 (numLo (l.take k))] 66 (0, 0))) := hblk
      clear hblk
      cases hb : l[k]
      · rw [hb] at hck
        go_wp2
        go_roundw
        case rel => exact ⟨k + 1, by omega, by go_num, hnx, num_none HB.out hlt hb⟩
        case measure => simp [intOf]; omega
      · rw [hb] at hck
        by_cases h64 : (k : Int) < 64
        · go_wp2
          go_region
          go_wp2
          go_roundw
          case rel => exact ⟨k + 1, by omega, by go_num, (hnx.setCell (by simp) _).drew, num_lo HB.out hlt hb (by omega)⟩
          case measure => simp [intOf]; omega
        · go_wp2
          go_region
          go_wp2
          go_roundw
          case rel => exact ⟨k + 1, by omega, by go_num, (hnx.setCell (by simp) _).drew, num_hi HB.out hlt hb (by omega) (by omega)⟩
          case measure => simp [intOf]; omega
    · have hkk : k = l.length := by omega
      subst hkk
      rw [List.take_length] at hblk d1 d2
      have hb0 : wr.heap[w.heap.size]? = some (.cells #[.int .i64 0, .int .u64 0, .int .u64 0] 66 (0, 0)) := (hnx.block _ (by omega)).trans (blk_new _ _ _)
      obtain ⟨r0, r1, r2, g0, g1, g2⟩ := blk3 hb0
      have hf : Hid (Below w.heap.size w wr) := ((Below.refl _ _).alloc (Nat.le_refl _) _).trans (hnx.mono (by omega))
      clear hb0 hnx hblk hk
      go_wp2
      refine bodyPost_ret (v := .agg #[.int .i64 l.length, .int .u64 (numHi l), .int .u64 (numLo l)]) (by simp [results, Tryz.results277, go_sem, r0, r1, r2]) rfl ⟨rfl, ?_⟩
      exact ((hf.out.setCell (Nat.le_refl _) _).setCell (Nat.le_refl _) _).setCell (Nat.le_refl _) _

theorem refNumber_nil (w : World) :
    Calls Tryz.prog 277 #[.slice none 0 0] w fun e w' =>
      e = .returned (.agg #[.int .i64 0, .int .u64 0, .int .u64 0]) ∧ Below w.heap.size w w' := by
  go_enter Tryz.func277, Tryz.ntmps277
  go_wp2
  refine wp_loop_rounds 1 ?_
  rw [rounds_succ]
  go_wp2
  refine bodyPost_ret (v := .agg #[.int .i64 0, .int .u64 0, .int .u64 0]) (by simp [results, Tryz.results277, go_sem]) rfl ⟨rfl, ?_⟩
  exact ((Below.refl _ _).alloc (Nat.le_refl _) _).alloc (by simp) _

theorem refNumber_any (v : Value) (l : List Bool) (w : World) (hl : l.length ≤ 128) (hv : BRow w v l) :
    Calls Tryz.prog 277 #[v] w fun e w' =>
      e = .returned (.agg #[.int .i64 l.length, .int .u64 (numHi l), .int .u64 (numLo l)]) ∧ Below w.heap.size w w' := by
  rcases hv with ⟨rfl, rfl⟩ | ⟨b, off, cap, rfl, hc⟩
  · exact refNumber_nil w
  · exact refNumber_row l hl b off cap w hc

theorem brow_of_own {w : World} {base k : Nat} {v : Value} {l : List Bool} (h : w.ownsRow base 4 1 v k (l.map Value.bool)) : BRow w v l := by
  have hk : l.length = k := by have := h.1; simpa using this
  rcases h.2 with ⟨rfl, h0⟩ | ⟨g, cap, cur, rfl, _⟩
  · exact .inl ⟨rfl, List.length_eq_zero_iff.1 (by omega)⟩
  · refine .inr ⟨g, 0, cap, by rw [hk], fun i hi => ?_⟩
    have := h.cellAt i (by omega)
    rw [Nat.zero_add, this]
    simp [hi]
theorem BRow.keep {w w1 : World} {v : Value} {l : List Bool} (h : BRow w v l) (hb : Below w.heap.size w w1) : BRow w1 v l := by
  rcases h with h | ⟨b, off, cap, hv, hc⟩
  · exact .inl h
  · exact .inr ⟨b, off, cap, hv, fun i hi => by rw [hb.cell (World.block_lt_of_cell? w _ (hc i hi))]; exact hc i hi⟩
end Go.Proofs.YtfanhdjebmdniaaGreatDoor
/- The walks of the document's own Of and Check. -/
namespace Go.Proofs.YtfanhdjebmdniaaGreatDoor
open Go.RowKit

theorem refOf_no (n hi lo : Int) (w : World) (h : ¬ (1 ≤ n ∧ n ≤ 128)) :
    Calls Tryz.prog 270 #[.int .i64 n, .int .u64 hi, .int .u64 lo] w fun e w' =>
      e = .returned (.tuple #[.agg #[.int .i64 0, .int .u64 0, .int .u64 0], .int .i64 1]) ∧ Below w.heap.size w w' := by
  by_cases h1 : n < 1
  · clear h
    go_enter Tryz.func270, Tryz.ntmps270
    go_wp2
    refine bodyPost_ret (v := .tuple #[.agg #[.int .i64 0, .int .u64 0, .int .u64 0], .int .i64 1]) (by simp [results, Tryz.results270, go_sem]) rfl ⟨rfl, ?_⟩
    exact (Below.refl _ _).alloc (Nat.le_refl _) _
  · have h2 : 128 < n := by omega
    clear h
    have h1' : decide (n < 1) = false := by simpa using h1
    go_enter Tryz.func270, Tryz.ntmps270
    go_wp2
    refine bodyPost_ret (v := .tuple #[.agg #[.int .i64 0, .int .u64 0, .int .u64 0], .int .i64 1]) (by simp [results, Tryz.results270, go_sem]) rfl ⟨rfl, ?_⟩
    exact (Below.refl _ _).alloc (Nat.le_refl _) _

/- Number of Bits, with the numbers as cut gives them. -/
theorem refNumber_bits (v : Value) (n hi lo : Int) (w : World) (B : Nat) (h0 : 1 ≤ n) (h1 : n ≤ 128) (a0 : 0 ≤ hi) (b0 : 0 ≤ lo) (b1 : lo < 18446744073709551616)
    (hown : w.ownsRow B 4 1 v (min n 128).toNat ((bitsTo hi lo (min n 128).toNat).map Value.bool)) :
    Calls Tryz.prog 277 #[v] w fun e w' => e = .returned (.agg #[.int .i64 n, .int .u64 (cHi n hi), .int .u64 (cLo n lo)]) ∧ Below w.heap.size w w' := by
  have e0 : min n 128 = n := Int.min_eq_left h1
  rw [e0] at hown
  have h := refNumber_any v (bitsTo hi lo n.toNat) w (by rw [bitsTo_length]; omega) (brow_of_own hown)
  rw [bitsTo_length, numHi_bits hi lo n (by omega) h1 a0, numLo_bits hi lo n (by omega) b0 b1, Int.toNat_of_nonneg (by omega)] at h
  exact h

theorem refOf_yes (n hi lo : Int) (w : World) (h0 : 1 ≤ n) (h1 : n ≤ 128) (a0 : 0 ≤ hi) (a1 : hi < 18446744073709551616) (b0 : 0 ≤ lo) (b1 : lo < 18446744073709551616) :
    Calls Tryz.prog 270 #[.int .i64 n, .int .u64 hi, .int .u64 lo] w fun e w' =>
      e = .returned (.tuple #[.agg #[.int .i64 n, .int .u64 (cHi n hi), .int .u64 (cLo n lo)], .int .i64 0]) ∧ Below w.heap.size w w' := by
  have h0' : decide (n < 1) = false := by simp; omega
  have h1' : decide (128 < n) = false := by simp; omega
  go_enter Tryz.func270, Tryz.ntmps270
  go_wp2_with fail
  refine (refBits_any n hi lo _ a0 a1 b0 b1).mono ?_
  rintro e w1 ⟨v, rfl, hown, hb1⟩
  have HO := hown
  have HB := hb1
  have HOw : Hid (w1.ownsRow _ 4 1 v (min n 128).toNat ((bitsTo hi lo (min n 128).toNat).map Value.bool)) := HO
  clear hown HO
  go_wp2_with fail
  refine (refNumber_bits v n hi lo _ _ h0 h1 a0 b0 b1 HOw.out).mono ?_
  rintro e w2 ⟨rfl, hb2⟩
  obtain ⟨hc, hf⟩ := bcell (hb1.trans (hb2.mono hb1.size))
  have hz : w.heap.size < w2.heap.size := by have := hb2.size; have := hb1.size; simp at this; omega
  go_wp2
  refine bodyPost_ret (v := .tuple #[.agg #[.int .i64 n, .int .u64 (cHi n hi), .int .u64 (cLo n lo)], .int .i64 0]) (by simp [results, Tryz.results270, go_sem, hc]) rfl ⟨rfl, ?_⟩
  exact (((((Below.refl _ _).alloc (Nat.le_refl _) _).trans ((hb1.trans (hb2.mono hb1.size)).mono (by simp))).setCell (Nat.le_refl _) _).setCell (Nat.le_refl _) _).setCell (Nat.le_refl _) _

theorem refCheck_no (n hi lo : Int) (w : World) (h : ¬ (1 ≤ n ∧ n ≤ 128)) :
    Calls Tryz.prog 246 #[.agg #[.int .i64 n, .int .u64 hi, .int .u64 lo]] w fun e w' => e = .returned (.bool false) ∧ Below w.heap.size w w' := by
  go_enter Tryz.func246, Tryz.ntmps246
  go_wp2_with fail
  refine (refOf_no n hi lo _ h).mono ?_
  rintro e w1 ⟨rfl, hb1⟩
  obtain ⟨hc, hf⟩ := bcell hb1
  have hz : w.heap.size < w1.heap.size := by have := hb1.size; simp at this; omega
  go_wp2
  go_ret
  exact ⟨rfl, ((((Below.refl _ _).alloc (Nat.le_refl _) _).trans (hb1.mono (by simp))).alloc (by omega) _)⟩

theorem refCheck_yes (n hi lo : Int) (w : World) (h0 : 1 ≤ n) (h1 : n ≤ 128) (a0 : 0 ≤ hi) (a1 : hi < 18446744073709551616) (b0 : 0 ≤ lo) (b1 : lo < 18446744073709551616) :
    Calls Tryz.prog 246 #[.agg #[.int .i64 n, .int .u64 hi, .int .u64 lo]] w fun e w' => e = .returned (.bool (cHi n hi == hi && cLo n lo == lo)) ∧ Below w.heap.size w w' := by
  cases e1 : (cHi n hi == hi) <;> cases e2 : (cLo n lo == lo)
  all_goals
    go_enter Tryz.func246, Tryz.ntmps246
    go_wp2_with fail
    refine (refOf_yes n hi lo _ h0 h1 a0 a1 b0 b1).mono ?_
    rintro e w1 ⟨rfl, hb1⟩
    obtain ⟨hc, hf⟩ := bcell hb1
    have hz : w.heap.size < w1.heap.size := by have := hb1.size; simp at this; omega
    go_wp2
    go_ret
    exact ⟨rfl, ((((Below.refl _ _).alloc (Nat.le_refl _) _).trans (hb1.mono (by simp))).alloc (by omega) _)⟩

theorem refCheck_any (n hi lo : Int) (w : World) (a0 : 0 ≤ hi) (a1 : hi < 18446744073709551616) (b0 : 0 ≤ lo) (b1 : lo < 18446744073709551616) :
    Calls Tryz.prog 246 #[.agg #[.int .i64 n, .int .u64 hi, .int .u64 lo]] w fun e w' =>
      e = .returned (.bool (okB n hi lo)) ∧ Below w.heap.size w w' := by
  by_cases h : 1 ≤ n ∧ n ≤ 128
  · have e : okB n hi lo = (cHi n hi == hi && cLo n lo == lo) := by unfold okB; rw [mayBe_yes h.1 h.2]; rfl
    rw [e]
    exact refCheck_yes n hi lo w h.1 h.2 a0 a1 b0 b1
  · have e : okB n hi lo = false := by unfold okB; rw [mayBe_no h]; rfl
    rw [e]
    exact refCheck_no n hi lo w h
end Go.Proofs.YtfanhdjebmdniaaGreatDoor
