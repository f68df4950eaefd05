/- The document's Digits. -/
import Derived.Test.YtbbnjilajkllpaaDoorUD
namespace Go.Proofs.YtbbnjilajkllpaaDoor
open Go.RowKit

def tenS : ByteArray := ⟨#[48, 49, 50, 51, 52, 53, 54, 55, 56, 57]⟩
theorem ext10 : ∀ x : Fin 10, tenS.extract x.val (x.val + 1) = txt [UInt8.ofNat (48 + x.val)] := by decide +kernel
theorem ext10' {x : Nat} (h : x < 10) : tenS.extract x (x + 1) = txt [UInt8.ofNat (48 + x)] := ext10 ⟨x, h⟩
theorem dc_len : ∀ (k v : Nat), v < 10 ^ (k + 1) → (Lib.decDigits v).length ≤ k + 1
  | 0, v, h => by rw [dc_small (by simpa using h)]; simp
  | k + 1, v, h => by
    by_cases hs : v < 10
    · rw [dc_small hs]; simp
    · rw [dc_big hs, List.length_append]
      have := dc_len k (v / 10) (by rw [Nat.pow_succ] at h; omega)
      simp; omega
set_option maxRecDepth 100000 in
theorem refDigits (N : Nat) (hN : N < 10000000000) (w : World) :
    Calls Tryd.prog 14 #[.int .i64 N] w fun e w' => e = .returned (.string (txt (Lib.decDigits N))) ∧ w' = w := by
  have HLN := hide (dc_len 9 N (by omega))
  generalize hD : Lib.decDigits N = D at HLN ⊢
  have HD := hide hD
  clear hD
  have hwf : Hid (N < 10000000000) := hN
  clear hN
  go_enter Tryd.func14, Tryd.ntmps14
  go_wp2
  go_loop [0, 3] (fun vn vs => ∃ (n : Nat) (l : List UInt8) (S : ByteArray), vn = .int .i64 (n : Int) ∧ vs = .string S ∧ n < 10000000000 ∧ Hid (S = txt l ∧ D = Lib.decDigits n ++ l)) (fun vn _ => (intOf vn).toNat)
  case atStart => exact ⟨N, [], ⟨#[]⟩, rfl, rfl, hwf.out, rfl, by rw [← HD.out]; simp⟩
  case round =>
    obtain ⟨n, l, S, rfl, rfl, hn, HS⟩ := hrel
    have hSs : S.size ≤ 20 := by
      obtain ⟨h1, h2⟩ := HS.out
      have := HLN.out
      rw [h2, List.length_append] at this
      rw [h1, txt_size]; omega
    have hs1 : ¬ 9223372036854775807 < 1 + S.size := by omega
    by_cases hb : 9 < n
    · have HN : Hid (tenS.extract (n % 10) (n % 10 + 1) ++ S = txt (UInt8.ofNat (48 + n % 10) :: l) ∧ D = Lib.decDigits (n / 10) ++ (UInt8.ofNat (48 + n % 10) :: l)) := by
        obtain ⟨h1, h2⟩ := HS.out
        refine ⟨by rw [ext10' (by omega), h1, cat_txt]; rfl, ?_⟩
        rw [h2, dc_big (by omega), List.append_assoc]; rfl
      clear HS
      go_wp2
      exact ⟨⟨n / 10, _, _, by congr 1, rfl, by omega, HN⟩, by simp [intOf]; omega⟩
    · have HN : Hid (tenS.extract n (n + 1) ++ S = txt D) := by
        obtain ⟨h1, h2⟩ := HS.out
        unfold Hid
        rw [ext10' (by omega), h1, cat_txt, h2, dc_small (by omega)]
      clear HS
      have hn10 : n < 10 := by omega
      go_wp2
      go_ret
      exact ⟨by rw [← HN.out]; rfl, rfl⟩
end Go.Proofs.YtbbnjilajkllpaaDoor
