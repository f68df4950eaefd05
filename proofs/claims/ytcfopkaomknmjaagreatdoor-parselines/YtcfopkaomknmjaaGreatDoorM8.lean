/- Pieces of the proof: PaK. -/
import Derived.Test.YtcfopkaomknmjaaGreatDoorM7
/- package parse: key words. -/
namespace Go.Proofs.YtcfopkaomknmjaaGreatDoor
open Go.RowKit

def kws : List (List UInt8) := [[104, 101, 97, 100, 101, 114], [109, 101, 116, 97], [114, 101, 103, 105, 115, 116, 101, 114], [99, 111, 117, 110, 116, 101, 114], [109, 101, 116, 101, 114], [112, 97, 114, 115, 101, 114], [97, 99, 116, 105, 111, 110], [116, 97, 98, 108, 101], [99, 111, 110, 116, 114, 111, 108], [100, 101, 112, 97, 114, 115, 101, 114], [107, 101, 121], [97, 99, 116, 105, 111, 110, 115], [100, 101, 102, 97, 117, 108, 116], [115, 105, 122, 101], [116, 97, 107, 101], [103, 111], [115, 101, 108, 101, 99, 116], [101, 108, 115, 101], [101, 120, 97, 99, 116], [112, 114, 101, 102, 105, 120], [109, 97, 115, 107], [114, 97, 110, 103, 101], [105, 102], [97, 112, 112, 108, 121], [109, 97, 107, 101], [103, 111, 110, 101], [99, 111, 117, 110, 116], [114, 101, 97, 100], [119, 114, 105, 116, 101], [114, 97, 110, 100, 111, 109], [100, 114, 111, 112], [100, 105, 103, 101, 115, 116], [99, 108, 111, 110, 101], [97, 103, 97, 105, 110], [114, 111, 117, 110, 100], [118, 97, 108, 105, 100], [99, 97, 115, 116], [104, 97, 115, 104]]
set_option maxRecDepth 100000 in
theorem key_0 (T : ByteArray) (h : T.toList = [104, 101, 97, 100, 101, 114]) (w : World) : Calls Tryz.prog 152 #[.string T] w fun e w' => e = .returned (.bool true) ∧ w' = w := by
  have f0 : (T.toList == [104, 101, 97, 100, 101, 114]) = true := by rw [h]; rfl
  clear h
  go_enter Tryz.func152, Tryz.ntmps152
  go_wp2
  go_ret
  exact ⟨rfl, rfl⟩
set_option maxRecDepth 100000 in
theorem key_1 (T : ByteArray) (h : T.toList = [109, 101, 116, 97]) (w : World) : Calls Tryz.prog 152 #[.string T] w fun e w' => e = .returned (.bool true) ∧ w' = w := by
  have f0 : (T.toList == [104, 101, 97, 100, 101, 114]) = false := by rw [h]; rfl
  have f1 : (T.toList == [109, 101, 116, 97]) = true := by rw [h]; rfl
  clear h
  go_enter Tryz.func152, Tryz.ntmps152
  go_wp2
  go_ret
  exact ⟨rfl, rfl⟩
set_option maxRecDepth 100000 in
theorem key_2 (T : ByteArray) (h : T.toList = [114, 101, 103, 105, 115, 116, 101, 114]) (w : World) : Calls Tryz.prog 152 #[.string T] w fun e w' => e = .returned (.bool true) ∧ w' = w := by
  have f0 : (T.toList == [104, 101, 97, 100, 101, 114]) = false := by rw [h]; rfl
  have f1 : (T.toList == [109, 101, 116, 97]) = false := by rw [h]; rfl
  have f2 : (T.toList == [114, 101, 103, 105, 115, 116, 101, 114]) = true := by rw [h]; rfl
  clear h
  go_enter Tryz.func152, Tryz.ntmps152
  go_wp2
  go_ret
  exact ⟨rfl, rfl⟩
set_option maxRecDepth 100000 in
theorem key_3 (T : ByteArray) (h : T.toList = [99, 111, 117, 110, 116, 101, 114]) (w : World) : Calls Tryz.prog 152 #[.string T] w fun e w' => e = .returned (.bool true) ∧ w' = w := by
  have f0 : (T.toList == [104, 101, 97, 100, 101, 114]) = false := by rw [h]; rfl
  have f1 : (T.toList == [109, 101, 116, 97]) = false := by rw [h]; rfl
  have f2 : (T.toList == [114, 101, 103, 105, 115, 116, 101, 114]) = false := by rw [h]; rfl
  have f3 : (T.toList == [99, 111, 117, 110, 116, 101, 114]) = true := by rw [h]; rfl
  clear h
  go_enter Tryz.func152, Tryz.ntmps152
  go_wp2
  go_ret
  exact ⟨rfl, rfl⟩
set_option maxRecDepth 100000 in
theorem key_4 (T : ByteArray) (h : T.toList = [109, 101, 116, 101, 114]) (w : World) : Calls Tryz.prog 152 #[.string T] w fun e w' => e = .returned (.bool true) ∧ w' = w := by
  have f0 : (T.toList == [104, 101, 97, 100, 101, 114]) = false := by rw [h]; rfl
  have f1 : (T.toList == [109, 101, 116, 97]) = false := by rw [h]; rfl
  have f2 : (T.toList == [114, 101, 103, 105, 115, 116, 101, 114]) = false := by rw [h]; rfl
  have f3 : (T.toList == [99, 111, 117, 110, 116, 101, 114]) = false := by rw [h]; rfl
  have f4 : (T.toList == [109, 101, 116, 101, 114]) = true := by rw [h]; rfl
  clear h
  go_enter Tryz.func152, Tryz.ntmps152
  go_wp2
  go_ret
  exact ⟨rfl, rfl⟩
set_option maxRecDepth 100000 in
theorem key_5 (T : ByteArray) (h : T.toList = [112, 97, 114, 115, 101, 114]) (w : World) : Calls Tryz.prog 152 #[.string T] w fun e w' => e = .returned (.bool true) ∧ w' = w := by
  have f0 : (T.toList == [104, 101, 97, 100, 101, 114]) = false := by rw [h]; rfl
  have f1 : (T.toList == [109, 101, 116, 97]) = false := by rw [h]; rfl
  have f2 : (T.toList == [114, 101, 103, 105, 115, 116, 101, 114]) = false := by rw [h]; rfl
  have f3 : (T.toList == [99, 111, 117, 110, 116, 101, 114]) = false := by rw [h]; rfl
  have f4 : (T.toList == [109, 101, 116, 101, 114]) = false := by rw [h]; rfl
  have f5 : (T.toList == [112, 97, 114, 115, 101, 114]) = true := by rw [h]; rfl
  clear h
  go_enter Tryz.func152, Tryz.ntmps152
  go_wp2
  go_ret
  exact ⟨rfl, rfl⟩
set_option maxRecDepth 100000 in
theorem key_6 (T : ByteArray) (h : T.toList = [97, 99, 116, 105, 111, 110]) (w : World) : Calls Tryz.prog 152 #[.string T] w fun e w' => e = .returned (.bool true) ∧ w' = w := by
  have f0 : (T.toList == [104, 101, 97, 100, 101, 114]) = false := by rw [h]; rfl
  have f1 : (T.toList == [109, 101, 116, 97]) = false := by rw [h]; rfl
  have f2 : (T.toList == [114, 101, 103, 105, 115, 116, 101, 114]) = false := by rw [h]; rfl
  have f3 : (T.toList == [99, 111, 117, 110, 116, 101, 114]) = false := by rw [h]; rfl
  have f4 : (T.toList == [109, 101, 116, 101, 114]) = false := by rw [h]; rfl
  have f5 : (T.toList == [112, 97, 114, 115, 101, 114]) = false := by rw [h]; rfl
  have f6 : (T.toList == [97, 99, 116, 105, 111, 110]) = true := by rw [h]; rfl
  clear h
  go_enter Tryz.func152, Tryz.ntmps152
  go_wp2
  go_ret
  exact ⟨rfl, rfl⟩
set_option maxRecDepth 100000 in
theorem key_7 (T : ByteArray) (h : T.toList = [116, 97, 98, 108, 101]) (w : World) : Calls Tryz.prog 152 #[.string T] w fun e w' => e = .returned (.bool true) ∧ w' = w := by
  have f0 : (T.toList == [104, 101, 97, 100, 101, 114]) = false := by rw [h]; rfl
  have f1 : (T.toList == [109, 101, 116, 97]) = false := by rw [h]; rfl
  have f2 : (T.toList == [114, 101, 103, 105, 115, 116, 101, 114]) = false := by rw [h]; rfl
  have f3 : (T.toList == [99, 111, 117, 110, 116, 101, 114]) = false := by rw [h]; rfl
  have f4 : (T.toList == [109, 101, 116, 101, 114]) = false := by rw [h]; rfl
  have f5 : (T.toList == [112, 97, 114, 115, 101, 114]) = false := by rw [h]; rfl
  have f6 : (T.toList == [97, 99, 116, 105, 111, 110]) = false := by rw [h]; rfl
  have f7 : (T.toList == [116, 97, 98, 108, 101]) = true := by rw [h]; rfl
  clear h
  go_enter Tryz.func152, Tryz.ntmps152
  go_wp2
  go_ret
  exact ⟨rfl, rfl⟩
set_option maxRecDepth 100000 in
theorem key_8 (T : ByteArray) (h : T.toList = [99, 111, 110, 116, 114, 111, 108]) (w : World) : Calls Tryz.prog 152 #[.string T] w fun e w' => e = .returned (.bool true) ∧ w' = w := by
  have f0 : (T.toList == [104, 101, 97, 100, 101, 114]) = false := by rw [h]; rfl
  have f1 : (T.toList == [109, 101, 116, 97]) = false := by rw [h]; rfl
  have f2 : (T.toList == [114, 101, 103, 105, 115, 116, 101, 114]) = false := by rw [h]; rfl
  have f3 : (T.toList == [99, 111, 117, 110, 116, 101, 114]) = false := by rw [h]; rfl
  have f4 : (T.toList == [109, 101, 116, 101, 114]) = false := by rw [h]; rfl
  have f5 : (T.toList == [112, 97, 114, 115, 101, 114]) = false := by rw [h]; rfl
  have f6 : (T.toList == [97, 99, 116, 105, 111, 110]) = false := by rw [h]; rfl
  have f7 : (T.toList == [116, 97, 98, 108, 101]) = false := by rw [h]; rfl
  have f8 : (T.toList == [99, 111, 110, 116, 114, 111, 108]) = true := by rw [h]; rfl
  clear h
  go_enter Tryz.func152, Tryz.ntmps152
  go_wp2
  go_ret
  exact ⟨rfl, rfl⟩
set_option maxRecDepth 100000 in
theorem key_9 (T : ByteArray) (h : T.toList = [100, 101, 112, 97, 114, 115, 101, 114]) (w : World) : Calls Tryz.prog 152 #[.string T] w fun e w' => e = .returned (.bool true) ∧ w' = w := by
  have f0 : (T.toList == [104, 101, 97, 100, 101, 114]) = false := by rw [h]; rfl
  have f1 : (T.toList == [109, 101, 116, 97]) = false := by rw [h]; rfl
  have f2 : (T.toList == [114, 101, 103, 105, 115, 116, 101, 114]) = false := by rw [h]; rfl
  have f3 : (T.toList == [99, 111, 117, 110, 116, 101, 114]) = false := by rw [h]; rfl
  have f4 : (T.toList == [109, 101, 116, 101, 114]) = false := by rw [h]; rfl
  have f5 : (T.toList == [112, 97, 114, 115, 101, 114]) = false := by rw [h]; rfl
  have f6 : (T.toList == [97, 99, 116, 105, 111, 110]) = false := by rw [h]; rfl
  have f7 : (T.toList == [116, 97, 98, 108, 101]) = false := by rw [h]; rfl
  have f8 : (T.toList == [99, 111, 110, 116, 114, 111, 108]) = false := by rw [h]; rfl
  have f9 : (T.toList == [100, 101, 112, 97, 114, 115, 101, 114]) = true := by rw [h]; rfl
  clear h
  go_enter Tryz.func152, Tryz.ntmps152
  go_wp2
  go_ret
  exact ⟨rfl, rfl⟩
set_option maxRecDepth 100000 in
theorem key_10 (T : ByteArray) (h : T.toList = [107, 101, 121]) (w : World) : Calls Tryz.prog 152 #[.string T] w fun e w' => e = .returned (.bool true) ∧ w' = w := by
  have f0 : (T.toList == [104, 101, 97, 100, 101, 114]) = false := by rw [h]; rfl
  have f1 : (T.toList == [109, 101, 116, 97]) = false := by rw [h]; rfl
  have f2 : (T.toList == [114, 101, 103, 105, 115, 116, 101, 114]) = false := by rw [h]; rfl
  have f3 : (T.toList == [99, 111, 117, 110, 116, 101, 114]) = false := by rw [h]; rfl
  have f4 : (T.toList == [109, 101, 116, 101, 114]) = false := by rw [h]; rfl
  have f5 : (T.toList == [112, 97, 114, 115, 101, 114]) = false := by rw [h]; rfl
  have f6 : (T.toList == [97, 99, 116, 105, 111, 110]) = false := by rw [h]; rfl
  have f7 : (T.toList == [116, 97, 98, 108, 101]) = false := by rw [h]; rfl
  have f8 : (T.toList == [99, 111, 110, 116, 114, 111, 108]) = false := by rw [h]; rfl
  have f9 : (T.toList == [100, 101, 112, 97, 114, 115, 101, 114]) = false := by rw [h]; rfl
  have f10 : (T.toList == [107, 101, 121]) = true := by rw [h]; rfl
  clear h
  go_enter Tryz.func152, Tryz.ntmps152
  go_wp2
  go_ret
  exact ⟨rfl, rfl⟩
set_option maxRecDepth 100000 in
theorem key_11 (T : ByteArray) (h : T.toList = [97, 99, 116, 105, 111, 110, 115]) (w : World) : Calls Tryz.prog 152 #[.string T] w fun e w' => e = .returned (.bool true) ∧ w' = w := by
  have f0 : (T.toList == [104, 101, 97, 100, 101, 114]) = false := by rw [h]; rfl
  have f1 : (T.toList == [109, 101, 116, 97]) = false := by rw [h]; rfl
  have f2 : (T.toList == [114, 101, 103, 105, 115, 116, 101, 114]) = false := by rw [h]; rfl
  have f3 : (T.toList == [99, 111, 117, 110, 116, 101, 114]) = false := by rw [h]; rfl
  have f4 : (T.toList == [109, 101, 116, 101, 114]) = false := by rw [h]; rfl
  have f5 : (T.toList == [112, 97, 114, 115, 101, 114]) = false := by rw [h]; rfl
  have f6 : (T.toList == [97, 99, 116, 105, 111, 110]) = false := by rw [h]; rfl
  have f7 : (T.toList == [116, 97, 98, 108, 101]) = false := by rw [h]; rfl
  have f8 : (T.toList == [99, 111, 110, 116, 114, 111, 108]) = false := by rw [h]; rfl
  have f9 : (T.toList == [100, 101, 112, 97, 114, 115, 101, 114]) = false := by rw [h]; rfl
  have f10 : (T.toList == [107, 101, 121]) = false := by rw [h]; rfl
  have f11 : (T.toList == [97, 99, 116, 105, 111, 110, 115]) = true := by rw [h]; rfl
  clear h
  go_enter Tryz.func152, Tryz.ntmps152
  go_wp2
  go_ret
  exact ⟨rfl, rfl⟩
set_option maxRecDepth 100000 in
theorem key_12 (T : ByteArray) (h : T.toList = [100, 101, 102, 97, 117, 108, 116]) (w : World) : Calls Tryz.prog 152 #[.string T] w fun e w' => e = .returned (.bool true) ∧ w' = w := by
  have f0 : (T.toList == [104, 101, 97, 100, 101, 114]) = false := by rw [h]; rfl
  have f1 : (T.toList == [109, 101, 116, 97]) = false := by rw [h]; rfl
  have f2 : (T.toList == [114, 101, 103, 105, 115, 116, 101, 114]) = false := by rw [h]; rfl
  have f3 : (T.toList == [99, 111, 117, 110, 116, 101, 114]) = false := by rw [h]; rfl
  have f4 : (T.toList == [109, 101, 116, 101, 114]) = false := by rw [h]; rfl
  have f5 : (T.toList == [112, 97, 114, 115, 101, 114]) = false := by rw [h]; rfl
  have f6 : (T.toList == [97, 99, 116, 105, 111, 110]) = false := by rw [h]; rfl
  have f7 : (T.toList == [116, 97, 98, 108, 101]) = false := by rw [h]; rfl
  have f8 : (T.toList == [99, 111, 110, 116, 114, 111, 108]) = false := by rw [h]; rfl
  have f9 : (T.toList == [100, 101, 112, 97, 114, 115, 101, 114]) = false := by rw [h]; rfl
  have f10 : (T.toList == [107, 101, 121]) = false := by rw [h]; rfl
  have f11 : (T.toList == [97, 99, 116, 105, 111, 110, 115]) = false := by rw [h]; rfl
  have f12 : (T.toList == [100, 101, 102, 97, 117, 108, 116]) = true := by rw [h]; rfl
  clear h
  go_enter Tryz.func152, Tryz.ntmps152
  go_wp2
  go_ret
  exact ⟨rfl, rfl⟩
set_option maxRecDepth 100000 in
theorem key_13 (T : ByteArray) (h : T.toList = [115, 105, 122, 101]) (w : World) : Calls Tryz.prog 152 #[.string T] w fun e w' => e = .returned (.bool true) ∧ w' = w := by
  have f0 : (T.toList == [104, 101, 97, 100, 101, 114]) = false := by rw [h]; rfl
  have f1 : (T.toList == [109, 101, 116, 97]) = false := by rw [h]; rfl
  have f2 : (T.toList == [114, 101, 103, 105, 115, 116, 101, 114]) = false := by rw [h]; rfl
  have f3 : (T.toList == [99, 111, 117, 110, 116, 101, 114]) = false := by rw [h]; rfl
  have f4 : (T.toList == [109, 101, 116, 101, 114]) = false := by rw [h]; rfl
  have f5 : (T.toList == [112, 97, 114, 115, 101, 114]) = false := by rw [h]; rfl
  have f6 : (T.toList == [97, 99, 116, 105, 111, 110]) = false := by rw [h]; rfl
  have f7 : (T.toList == [116, 97, 98, 108, 101]) = false := by rw [h]; rfl
  have f8 : (T.toList == [99, 111, 110, 116, 114, 111, 108]) = false := by rw [h]; rfl
  have f9 : (T.toList == [100, 101, 112, 97, 114, 115, 101, 114]) = false := by rw [h]; rfl
  have f10 : (T.toList == [107, 101, 121]) = false := by rw [h]; rfl
  have f11 : (T.toList == [97, 99, 116, 105, 111, 110, 115]) = false := by rw [h]; rfl
  have f12 : (T.toList == [100, 101, 102, 97, 117, 108, 116]) = false := by rw [h]; rfl
  have f13 : (T.toList == [115, 105, 122, 101]) = true := by rw [h]; rfl
  clear h
  go_enter Tryz.func152, Tryz.ntmps152
  go_wp2
  go_ret
  exact ⟨rfl, rfl⟩
set_option maxRecDepth 100000 in
theorem key_14 (T : ByteArray) (h : T.toList = [116, 97, 107, 101]) (w : World) : Calls Tryz.prog 152 #[.string T] w fun e w' => e = .returned (.bool true) ∧ w' = w := by
  have f0 : (T.toList == [104, 101, 97, 100, 101, 114]) = false := by rw [h]; rfl
  have f1 : (T.toList == [109, 101, 116, 97]) = false := by rw [h]; rfl
  have f2 : (T.toList == [114, 101, 103, 105, 115, 116, 101, 114]) = false := by rw [h]; rfl
  have f3 : (T.toList == [99, 111, 117, 110, 116, 101, 114]) = false := by rw [h]; rfl
  have f4 : (T.toList == [109, 101, 116, 101, 114]) = false := by rw [h]; rfl
  have f5 : (T.toList == [112, 97, 114, 115, 101, 114]) = false := by rw [h]; rfl
  have f6 : (T.toList == [97, 99, 116, 105, 111, 110]) = false := by rw [h]; rfl
  have f7 : (T.toList == [116, 97, 98, 108, 101]) = false := by rw [h]; rfl
  have f8 : (T.toList == [99, 111, 110, 116, 114, 111, 108]) = false := by rw [h]; rfl
  have f9 : (T.toList == [100, 101, 112, 97, 114, 115, 101, 114]) = false := by rw [h]; rfl
  have f10 : (T.toList == [107, 101, 121]) = false := by rw [h]; rfl
  have f11 : (T.toList == [97, 99, 116, 105, 111, 110, 115]) = false := by rw [h]; rfl
  have f12 : (T.toList == [100, 101, 102, 97, 117, 108, 116]) = false := by rw [h]; rfl
  have f13 : (T.toList == [115, 105, 122, 101]) = false := by rw [h]; rfl
  have f14 : (T.toList == [116, 97, 107, 101]) = true := by rw [h]; rfl
  clear h
  go_enter Tryz.func152, Tryz.ntmps152
  go_wp2
  go_ret
  exact ⟨rfl, rfl⟩
set_option maxRecDepth 100000 in
theorem key_15 (T : ByteArray) (h : T.toList = [103, 111]) (w : World) : Calls Tryz.prog 152 #[.string T] w fun e w' => e = .returned (.bool true) ∧ w' = w := by
  have f0 : (T.toList == [104, 101, 97, 100, 101, 114]) = false := by rw [h]; rfl
  have f1 : (T.toList == [109, 101, 116, 97]) = false := by rw [h]; rfl
  have f2 : (T.toList == [114, 101, 103, 105, 115, 116, 101, 114]) = false := by rw [h]; rfl
  have f3 : (T.toList == [99, 111, 117, 110, 116, 101, 114]) = false := by rw [h]; rfl
  have f4 : (T.toList == [109, 101, 116, 101, 114]) = false := by rw [h]; rfl
  have f5 : (T.toList == [112, 97, 114, 115, 101, 114]) = false := by rw [h]; rfl
  have f6 : (T.toList == [97, 99, 116, 105, 111, 110]) = false := by rw [h]; rfl
  have f7 : (T.toList == [116, 97, 98, 108, 101]) = false := by rw [h]; rfl
  have f8 : (T.toList == [99, 111, 110, 116, 114, 111, 108]) = false := by rw [h]; rfl
  have f9 : (T.toList == [100, 101, 112, 97, 114, 115, 101, 114]) = false := by rw [h]; rfl
  have f10 : (T.toList == [107, 101, 121]) = false := by rw [h]; rfl
  have f11 : (T.toList == [97, 99, 116, 105, 111, 110, 115]) = false := by rw [h]; rfl
  have f12 : (T.toList == [100, 101, 102, 97, 117, 108, 116]) = false := by rw [h]; rfl
  have f13 : (T.toList == [115, 105, 122, 101]) = false := by rw [h]; rfl
  have f14 : (T.toList == [116, 97, 107, 101]) = false := by rw [h]; rfl
  have f15 : (T.toList == [103, 111]) = true := by rw [h]; rfl
  clear h
  go_enter Tryz.func152, Tryz.ntmps152
  go_wp2
  go_ret
  exact ⟨rfl, rfl⟩
set_option maxRecDepth 100000 in
theorem key_16 (T : ByteArray) (h : T.toList = [115, 101, 108, 101, 99, 116]) (w : World) : Calls Tryz.prog 152 #[.string T] w fun e w' => e = .returned (.bool true) ∧ w' = w := by
  have f0 : (T.toList == [104, 101, 97, 100, 101, 114]) = false := by rw [h]; rfl
  have f1 : (T.toList == [109, 101, 116, 97]) = false := by rw [h]; rfl
  have f2 : (T.toList == [114, 101, 103, 105, 115, 116, 101, 114]) = false := by rw [h]; rfl
  have f3 : (T.toList == [99, 111, 117, 110, 116, 101, 114]) = false := by rw [h]; rfl
  have f4 : (T.toList == [109, 101, 116, 101, 114]) = false := by rw [h]; rfl
  have f5 : (T.toList == [112, 97, 114, 115, 101, 114]) = false := by rw [h]; rfl
  have f6 : (T.toList == [97, 99, 116, 105, 111, 110]) = false := by rw [h]; rfl
  have f7 : (T.toList == [116, 97, 98, 108, 101]) = false := by rw [h]; rfl
  have f8 : (T.toList == [99, 111, 110, 116, 114, 111, 108]) = false := by rw [h]; rfl
  have f9 : (T.toList == [100, 101, 112, 97, 114, 115, 101, 114]) = false := by rw [h]; rfl
  have f10 : (T.toList == [107, 101, 121]) = false := by rw [h]; rfl
  have f11 : (T.toList == [97, 99, 116, 105, 111, 110, 115]) = false := by rw [h]; rfl
  have f12 : (T.toList == [100, 101, 102, 97, 117, 108, 116]) = false := by rw [h]; rfl
  have f13 : (T.toList == [115, 105, 122, 101]) = false := by rw [h]; rfl
  have f14 : (T.toList == [116, 97, 107, 101]) = false := by rw [h]; rfl
  have f15 : (T.toList == [103, 111]) = false := by rw [h]; rfl
  have f16 : (T.toList == [115, 101, 108, 101, 99, 116]) = true := by rw [h]; rfl
  clear h
  go_enter Tryz.func152, Tryz.ntmps152
  go_wp2
  go_ret
  exact ⟨rfl, rfl⟩
set_option maxRecDepth 100000 in
theorem key_17 (T : ByteArray) (h : T.toList = [101, 108, 115, 101]) (w : World) : Calls Tryz.prog 152 #[.string T] w fun e w' => e = .returned (.bool true) ∧ w' = w := by
  have f0 : (T.toList == [104, 101, 97, 100, 101, 114]) = false := by rw [h]; rfl
  have f1 : (T.toList == [109, 101, 116, 97]) = false := by rw [h]; rfl
  have f2 : (T.toList == [114, 101, 103, 105, 115, 116, 101, 114]) = false := by rw [h]; rfl
  have f3 : (T.toList == [99, 111, 117, 110, 116, 101, 114]) = false := by rw [h]; rfl
  have f4 : (T.toList == [109, 101, 116, 101, 114]) = false := by rw [h]; rfl
  have f5 : (T.toList == [112, 97, 114, 115, 101, 114]) = false := by rw [h]; rfl
  have f6 : (T.toList == [97, 99, 116, 105, 111, 110]) = false := by rw [h]; rfl
  have f7 : (T.toList == [116, 97, 98, 108, 101]) = false := by rw [h]; rfl
  have f8 : (T.toList == [99, 111, 110, 116, 114, 111, 108]) = false := by rw [h]; rfl
  have f9 : (T.toList == [100, 101, 112, 97, 114, 115, 101, 114]) = false := by rw [h]; rfl
  have f10 : (T.toList == [107, 101, 121]) = false := by rw [h]; rfl
  have f11 : (T.toList == [97, 99, 116, 105, 111, 110, 115]) = false := by rw [h]; rfl
  have f12 : (T.toList == [100, 101, 102, 97, 117, 108, 116]) = false := by rw [h]; rfl
  have f13 : (T.toList == [115, 105, 122, 101]) = false := by rw [h]; rfl
  have f14 : (T.toList == [116, 97, 107, 101]) = false := by rw [h]; rfl
  have f15 : (T.toList == [103, 111]) = false := by rw [h]; rfl
  have f16 : (T.toList == [115, 101, 108, 101, 99, 116]) = false := by rw [h]; rfl
  have f17 : (T.toList == [101, 108, 115, 101]) = true := by rw [h]; rfl
  clear h
  go_enter Tryz.func152, Tryz.ntmps152
  go_wp2
  go_ret
  exact ⟨rfl, rfl⟩
set_option maxRecDepth 100000 in
theorem key_18 (T : ByteArray) (h : T.toList = [101, 120, 97, 99, 116]) (w : World) : Calls Tryz.prog 152 #[.string T] w fun e w' => e = .returned (.bool true) ∧ w' = w := by
  have f0 : (T.toList == [104, 101, 97, 100, 101, 114]) = false := by rw [h]; rfl
  have f1 : (T.toList == [109, 101, 116, 97]) = false := by rw [h]; rfl
  have f2 : (T.toList == [114, 101, 103, 105, 115, 116, 101, 114]) = false := by rw [h]; rfl
  have f3 : (T.toList == [99, 111, 117, 110, 116, 101, 114]) = false := by rw [h]; rfl
  have f4 : (T.toList == [109, 101, 116, 101, 114]) = false := by rw [h]; rfl
  have f5 : (T.toList == [112, 97, 114, 115, 101, 114]) = false := by rw [h]; rfl
  have f6 : (T.toList == [97, 99, 116, 105, 111, 110]) = false := by rw [h]; rfl
  have f7 : (T.toList == [116, 97, 98, 108, 101]) = false := by rw [h]; rfl
  have f8 : (T.toList == [99, 111, 110, 116, 114, 111, 108]) = false := by rw [h]; rfl
  have f9 : (T.toList == [100, 101, 112, 97, 114, 115, 101, 114]) = false := by rw [h]; rfl
  have f10 : (T.toList == [107, 101, 121]) = false := by rw [h]; rfl
  have f11 : (T.toList == [97, 99, 116, 105, 111, 110, 115]) = false := by rw [h]; rfl
  have f12 : (T.toList == [100, 101, 102, 97, 117, 108, 116]) = false := by rw [h]; rfl
  have f13 : (T.toList == [115, 105, 122, 101]) = false := by rw [h]; rfl
  have f14 : (T.toList == [116, 97, 107, 101]) = false := by rw [h]; rfl
  have f15 : (T.toList == [103, 111]) = false := by rw [h]; rfl
  have f16 : (T.toList == [115, 101, 108, 101, 99, 116]) = false := by rw [h]; rfl
  have f17 : (T.toList == [101, 108, 115, 101]) = false := by rw [h]; rfl
  have f18 : (T.toList == [101, 120, 97, 99, 116]) = true := by rw [h]; rfl
  clear h
  go_enter Tryz.func152, Tryz.ntmps152
  go_wp2
  go_ret
  exact ⟨rfl, rfl⟩
set_option maxRecDepth 100000 in
theorem key_19 (T : ByteArray) (h : T.toList = [112, 114, 101, 102, 105, 120]) (w : World) : Calls Tryz.prog 152 #[.string T] w fun e w' => e = .returned (.bool true) ∧ w' = w := by
  have f0 : (T.toList == [104, 101, 97, 100, 101, 114]) = false := by rw [h]; rfl
  have f1 : (T.toList == [109, 101, 116, 97]) = false := by rw [h]; rfl
  have f2 : (T.toList == [114, 101, 103, 105, 115, 116, 101, 114]) = false := by rw [h]; rfl
  have f3 : (T.toList == [99, 111, 117, 110, 116, 101, 114]) = false := by rw [h]; rfl
  have f4 : (T.toList == [109, 101, 116, 101, 114]) = false := by rw [h]; rfl
  have f5 : (T.toList == [112, 97, 114, 115, 101, 114]) = false := by rw [h]; rfl
  have f6 : (T.toList == [97, 99, 116, 105, 111, 110]) = false := by rw [h]; rfl
  have f7 : (T.toList == [116, 97, 98, 108, 101]) = false := by rw [h]; rfl
  have f8 : (T.toList == [99, 111, 110, 116, 114, 111, 108]) = false := by rw [h]; rfl
  have f9 : (T.toList == [100, 101, 112, 97, 114, 115, 101, 114]) = false := by rw [h]; rfl
  have f10 : (T.toList == [107, 101, 121]) = false := by rw [h]; rfl
  have f11 : (T.toList == [97, 99, 116, 105, 111, 110, 115]) = false := by rw [h]; rfl
  have f12 : (T.toList == [100, 101, 102, 97, 117, 108, 116]) = false := by rw [h]; rfl
  have f13 : (T.toList == [115, 105, 122, 101]) = false := by rw [h]; rfl
  have f14 : (T.toList == [116, 97, 107, 101]) = false := by rw [h]; rfl
  have f15 : (T.toList == [103, 111]) = false := by rw [h]; rfl
  have f16 : (T.toList == [115, 101, 108, 101, 99, 116]) = false := by rw [h]; rfl
  have f17 : (T.toList == [101, 108, 115, 101]) = false := by rw [h]; rfl
  have f18 : (T.toList == [101, 120, 97, 99, 116]) = false := by rw [h]; rfl
  have f19 : (T.toList == [112, 114, 101, 102, 105, 120]) = true := by rw [h]; rfl
  clear h
  go_enter Tryz.func152, Tryz.ntmps152
  go_wp2
  go_ret
  exact ⟨rfl, rfl⟩
set_option maxRecDepth 100000 in
theorem key_20 (T : ByteArray) (h : T.toList = [109, 97, 115, 107]) (w : World) : Calls Tryz.prog 152 #[.string T] w fun e w' => e = .returned (.bool true) ∧ w' = w := by
  have f0 : (T.toList == [104, 101, 97, 100, 101, 114]) = false := by rw [h]; rfl
  have f1 : (T.toList == [109, 101, 116, 97]) = false := by rw [h]; rfl
  have f2 : (T.toList == [114, 101, 103, 105, 115, 116, 101, 114]) = false := by rw [h]; rfl
  have f3 : (T.toList == [99, 111, 117, 110, 116, 101, 114]) = false := by rw [h]; rfl
  have f4 : (T.toList == [109, 101, 116, 101, 114]) = false := by rw [h]; rfl
  have f5 : (T.toList == [112, 97, 114, 115, 101, 114]) = false := by rw [h]; rfl
  have f6 : (T.toList == [97, 99, 116, 105, 111, 110]) = false := by rw [h]; rfl
  have f7 : (T.toList == [116, 97, 98, 108, 101]) = false := by rw [h]; rfl
  have f8 : (T.toList == [99, 111, 110, 116, 114, 111, 108]) = false := by rw [h]; rfl
  have f9 : (T.toList == [100, 101, 112, 97, 114, 115, 101, 114]) = false := by rw [h]; rfl
  have f10 : (T.toList == [107, 101, 121]) = false := by rw [h]; rfl
  have f11 : (T.toList == [97, 99, 116, 105, 111, 110, 115]) = false := by rw [h]; rfl
  have f12 : (T.toList == [100, 101, 102, 97, 117, 108, 116]) = false := by rw [h]; rfl
  have f13 : (T.toList == [115, 105, 122, 101]) = false := by rw [h]; rfl
  have f14 : (T.toList == [116, 97, 107, 101]) = false := by rw [h]; rfl
  have f15 : (T.toList == [103, 111]) = false := by rw [h]; rfl
  have f16 : (T.toList == [115, 101, 108, 101, 99, 116]) = false := by rw [h]; rfl
  have f17 : (T.toList == [101, 108, 115, 101]) = false := by rw [h]; rfl
  have f18 : (T.toList == [101, 120, 97, 99, 116]) = false := by rw [h]; rfl
  have f19 : (T.toList == [112, 114, 101, 102, 105, 120]) = false := by rw [h]; rfl
  have f20 : (T.toList == [109, 97, 115, 107]) = true := by rw [h]; rfl
  clear h
  go_enter Tryz.func152, Tryz.ntmps152
  go_wp2
  go_ret
  exact ⟨rfl, rfl⟩
set_option maxRecDepth 100000 in
theorem key_21 (T : ByteArray) (h : T.toList = [114, 97, 110, 103, 101]) (w : World) : Calls Tryz.prog 152 #[.string T] w fun e w' => e = .returned (.bool true) ∧ w' = w := by
  have f0 : (T.toList == [104, 101, 97, 100, 101, 114]) = false := by rw [h]; rfl
  have f1 : (T.toList == [109, 101, 116, 97]) = false := by rw [h]; rfl
  have f2 : (T.toList == [114, 101, 103, 105, 115, 116, 101, 114]) = false := by rw [h]; rfl
  have f3 : (T.toList == [99, 111, 117, 110, 116, 101, 114]) = false := by rw [h]; rfl
  have f4 : (T.toList == [109, 101, 116, 101, 114]) = false := by rw [h]; rfl
  have f5 : (T.toList == [112, 97, 114, 115, 101, 114]) = false := by rw [h]; rfl
  have f6 : (T.toList == [97, 99, 116, 105, 111, 110]) = false := by rw [h]; rfl
  have f7 : (T.toList == [116, 97, 98, 108, 101]) = false := by rw [h]; rfl
  have f8 : (T.toList == [99, 111, 110, 116, 114, 111, 108]) = false := by rw [h]; rfl
  have f9 : (T.toList == [100, 101, 112, 97, 114, 115, 101, 114]) = false := by rw [h]; rfl
  have f10 : (T.toList == [107, 101, 121]) = false := by rw [h]; rfl
  have f11 : (T.toList == [97, 99, 116, 105, 111, 110, 115]) = false := by rw [h]; rfl
  have f12 : (T.toList == [100, 101, 102, 97, 117, 108, 116]) = false := by rw [h]; rfl
  have f13 : (T.toList == [115, 105, 122, 101]) = false := by rw [h]; rfl
  have f14 : (T.toList == [116, 97, 107, 101]) = false := by rw [h]; rfl
  have f15 : (T.toList == [103, 111]) = false := by rw [h]; rfl
  have f16 : (T.toList == [115, 101, 108, 101, 99, 116]) = false := by rw [h]; rfl
  have f17 : (T.toList == [101, 108, 115, 101]) = false := by rw [h]; rfl
  have f18 : (T.toList == [101, 120, 97, 99, 116]) = false := by rw [h]; rfl
  have f19 : (T.toList == [112, 114, 101, 102, 105, 120]) = false := by rw [h]; rfl
  have f20 : (T.toList == [109, 97, 115, 107]) = false := by rw [h]; rfl
  have f21 : (T.toList == [114, 97, 110, 103, 101]) = true := by rw [h]; rfl
  clear h
  go_enter Tryz.func152, Tryz.ntmps152
  go_wp2
  go_ret
  exact ⟨rfl, rfl⟩
set_option maxRecDepth 100000 in
theorem key_22 (T : ByteArray) (h : T.toList = [105, 102]) (w : World) : Calls Tryz.prog 152 #[.string T] w fun e w' => e = .returned (.bool true) ∧ w' = w := by
  have f0 : (T.toList == [104, 101, 97, 100, 101, 114]) = false := by rw [h]; rfl
  have f1 : (T.toList == [109, 101, 116, 97]) = false := by rw [h]; rfl
  have f2 : (T.toList == [114, 101, 103, 105, 115, 116, 101, 114]) = false := by rw [h]; rfl
  have f3 : (T.toList == [99, 111, 117, 110, 116, 101, 114]) = false := by rw [h]; rfl
  have f4 : (T.toList == [109, 101, 116, 101, 114]) = false := by rw [h]; rfl
  have f5 : (T.toList == [112, 97, 114, 115, 101, 114]) = false := by rw [h]; rfl
  have f6 : (T.toList == [97, 99, 116, 105, 111, 110]) = false := by rw [h]; rfl
  have f7 : (T.toList == [116, 97, 98, 108, 101]) = false := by rw [h]; rfl
  have f8 : (T.toList == [99, 111, 110, 116, 114, 111, 108]) = false := by rw [h]; rfl
  have f9 : (T.toList == [100, 101, 112, 97, 114, 115, 101, 114]) = false := by rw [h]; rfl
  have f10 : (T.toList == [107, 101, 121]) = false := by rw [h]; rfl
  have f11 : (T.toList == [97, 99, 116, 105, 111, 110, 115]) = false := by rw [h]; rfl
  have f12 : (T.toList == [100, 101, 102, 97, 117, 108, 116]) = false := by rw [h]; rfl
  have f13 : (T.toList == [115, 105, 122, 101]) = false := by rw [h]; rfl
  have f14 : (T.toList == [116, 97, 107, 101]) = false := by rw [h]; rfl
  have f15 : (T.toList == [103, 111]) = false := by rw [h]; rfl
  have f16 : (T.toList == [115, 101, 108, 101, 99, 116]) = false := by rw [h]; rfl
  have f17 : (T.toList == [101, 108, 115, 101]) = false := by rw [h]; rfl
  have f18 : (T.toList == [101, 120, 97, 99, 116]) = false := by rw [h]; rfl
  have f19 : (T.toList == [112, 114, 101, 102, 105, 120]) = false := by rw [h]; rfl
  have f20 : (T.toList == [109, 97, 115, 107]) = false := by rw [h]; rfl
  have f21 : (T.toList == [114, 97, 110, 103, 101]) = false := by rw [h]; rfl
  have f22 : (T.toList == [105, 102]) = true := by rw [h]; rfl
  clear h
  go_enter Tryz.func152, Tryz.ntmps152
  go_wp2
  go_ret
  exact ⟨rfl, rfl⟩
set_option maxRecDepth 100000 in
theorem key_23 (T : ByteArray) (h : T.toList = [97, 112, 112, 108, 121]) (w : World) : Calls Tryz.prog 152 #[.string T] w fun e w' => e = .returned (.bool true) ∧ w' = w := by
  have f0 : (T.toList == [104, 101, 97, 100, 101, 114]) = false := by rw [h]; rfl
  have f1 : (T.toList == [109, 101, 116, 97]) = false := by rw [h]; rfl
  have f2 : (T.toList == [114, 101, 103, 105, 115, 116, 101, 114]) = false := by rw [h]; rfl
  have f3 : (T.toList == [99, 111, 117, 110, 116, 101, 114]) = false := by rw [h]; rfl
  have f4 : (T.toList == [109, 101, 116, 101, 114]) = false := by rw [h]; rfl
  have f5 : (T.toList == [112, 97, 114, 115, 101, 114]) = false := by rw [h]; rfl
  have f6 : (T.toList == [97, 99, 116, 105, 111, 110]) = false := by rw [h]; rfl
  have f7 : (T.toList == [116, 97, 98, 108, 101]) = false := by rw [h]; rfl
  have f8 : (T.toList == [99, 111, 110, 116, 114, 111, 108]) = false := by rw [h]; rfl
  have f9 : (T.toList == [100, 101, 112, 97, 114, 115, 101, 114]) = false := by rw [h]; rfl
  have f10 : (T.toList == [107, 101, 121]) = false := by rw [h]; rfl
  have f11 : (T.toList == [97, 99, 116, 105, 111, 110, 115]) = false := by rw [h]; rfl
  have f12 : (T.toList == [100, 101, 102, 97, 117, 108, 116]) = false := by rw [h]; rfl
  have f13 : (T.toList == [115, 105, 122, 101]) = false := by rw [h]; rfl
  have f14 : (T.toList == [116, 97, 107, 101]) = false := by rw [h]; rfl
  have f15 : (T.toList == [103, 111]) = false := by rw [h]; rfl
  have f16 : (T.toList == [115, 101, 108, 101, 99, 116]) = false := by rw [h]; rfl
  have f17 : (T.toList == [101, 108, 115, 101]) = false := by rw [h]; rfl
  have f18 : (T.toList == [101, 120, 97, 99, 116]) = false := by rw [h]; rfl
  have f19 : (T.toList == [112, 114, 101, 102, 105, 120]) = false := by rw [h]; rfl
  have f20 : (T.toList == [109, 97, 115, 107]) = false := by rw [h]; rfl
  have f21 : (T.toList == [114, 97, 110, 103, 101]) = false := by rw [h]; rfl
  have f22 : (T.toList == [105, 102]) = false := by rw [h]; rfl
  have f23 : (T.toList == [97, 112, 112, 108, 121]) = true := by rw [h]; rfl
  clear h
  go_enter Tryz.func152, Tryz.ntmps152
  go_wp2
  go_ret
  exact ⟨rfl, rfl⟩
set_option maxRecDepth 100000 in
theorem key_24 (T : ByteArray) (h : T.toList = [109, 97, 107, 101]) (w : World) : Calls Tryz.prog 152 #[.string T] w fun e w' => e = .returned (.bool true) ∧ w' = w := by
  have f0 : (T.toList == [104, 101, 97, 100, 101, 114]) = false := by rw [h]; rfl
  have f1 : (T.toList == [109, 101, 116, 97]) = false := by rw [h]; rfl
  have f2 : (T.toList == [114, 101, 103, 105, 115, 116, 101, 114]) = false := by rw [h]; rfl
  have f3 : (T.toList == [99, 111, 117, 110, 116, 101, 114]) = false := by rw [h]; rfl
  have f4 : (T.toList == [109, 101, 116, 101, 114]) = false := by rw [h]; rfl
  have f5 : (T.toList == [112, 97, 114, 115, 101, 114]) = false := by rw [h]; rfl
  have f6 : (T.toList == [97, 99, 116, 105, 111, 110]) = false := by rw [h]; rfl
  have f7 : (T.toList == [116, 97, 98, 108, 101]) = false := by rw [h]; rfl
  have f8 : (T.toList == [99, 111, 110, 116, 114, 111, 108]) = false := by rw [h]; rfl
  have f9 : (T.toList == [100, 101, 112, 97, 114, 115, 101, 114]) = false := by rw [h]; rfl
  have f10 : (T.toList == [107, 101, 121]) = false := by rw [h]; rfl
  have f11 : (T.toList == [97, 99, 116, 105, 111, 110, 115]) = false := by rw [h]; rfl
  have f12 : (T.toList == [100, 101, 102, 97, 117, 108, 116]) = false := by rw [h]; rfl
  have f13 : (T.toList == [115, 105, 122, 101]) = false := by rw [h]; rfl
  have f14 : (T.toList == [116, 97, 107, 101]) = false := by rw [h]; rfl
  have f15 : (T.toList == [103, 111]) = false := by rw [h]; rfl
  have f16 : (T.toList == [115, 101, 108, 101, 99, 116]) = false := by rw [h]; rfl
  have f17 : (T.toList == [101, 108, 115, 101]) = false := by rw [h]; rfl
  have f18 : (T.toList == [101, 120, 97, 99, 116]) = false := by rw [h]; rfl
  have f19 : (T.toList == [112, 114, 101, 102, 105, 120]) = false := by rw [h]; rfl
  have f20 : (T.toList == [109, 97, 115, 107]) = false := by rw [h]; rfl
  have f21 : (T.toList == [114, 97, 110, 103, 101]) = false := by rw [h]; rfl
  have f22 : (T.toList == [105, 102]) = false := by rw [h]; rfl
  have f23 : (T.toList == [97, 112, 112, 108, 121]) = false := by rw [h]; rfl
  have f24 : (T.toList == [109, 97, 107, 101]) = true := by rw [h]; rfl
  clear h
  go_enter Tryz.func152, Tryz.ntmps152
  go_wp2
  go_ret
  exact ⟨rfl, rfl⟩
set_option maxRecDepth 100000 in
theorem key_25 (T : ByteArray) (h : T.toList = [103, 111, 110, 101]) (w : World) : Calls Tryz.prog 152 #[.string T] w fun e w' => e = .returned (.bool true) ∧ w' = w := by
  have f0 : (T.toList == [104, 101, 97, 100, 101, 114]) = false := by rw [h]; rfl
  have f1 : (T.toList == [109, 101, 116, 97]) = false := by rw [h]; rfl
  have f2 : (T.toList == [114, 101, 103, 105, 115, 116, 101, 114]) = false := by rw [h]; rfl
  have f3 : (T.toList == [99, 111, 117, 110, 116, 101, 114]) = false := by rw [h]; rfl
  have f4 : (T.toList == [109, 101, 116, 101, 114]) = false := by rw [h]; rfl
  have f5 : (T.toList == [112, 97, 114, 115, 101, 114]) = false := by rw [h]; rfl
  have f6 : (T.toList == [97, 99, 116, 105, 111, 110]) = false := by rw [h]; rfl
  have f7 : (T.toList == [116, 97, 98, 108, 101]) = false := by rw [h]; rfl
  have f8 : (T.toList == [99, 111, 110, 116, 114, 111, 108]) = false := by rw [h]; rfl
  have f9 : (T.toList == [100, 101, 112, 97, 114, 115, 101, 114]) = false := by rw [h]; rfl
  have f10 : (T.toList == [107, 101, 121]) = false := by rw [h]; rfl
  have f11 : (T.toList == [97, 99, 116, 105, 111, 110, 115]) = false := by rw [h]; rfl
  have f12 : (T.toList == [100, 101, 102, 97, 117, 108, 116]) = false := by rw [h]; rfl
  have f13 : (T.toList == [115, 105, 122, 101]) = false := by rw [h]; rfl
  have f14 : (T.toList == [116, 97, 107, 101]) = false := by rw [h]; rfl
  have f15 : (T.toList == [103, 111]) = false := by rw [h]; rfl
  have f16 : (T.toList == [115, 101, 108, 101, 99, 116]) = false := by rw [h]; rfl
  have f17 : (T.toList == [101, 108, 115, 101]) = false := by rw [h]; rfl
  have f18 : (T.toList == [101, 120, 97, 99, 116]) = false := by rw [h]; rfl
  have f19 : (T.toList == [112, 114, 101, 102, 105, 120]) = false := by rw [h]; rfl
  have f20 : (T.toList == [109, 97, 115, 107]) = false := by rw [h]; rfl
  have f21 : (T.toList == [114, 97, 110, 103, 101]) = false := by rw [h]; rfl
  have f22 : (T.toList == [105, 102]) = false := by rw [h]; rfl
  have f23 : (T.toList == [97, 112, 112, 108, 121]) = false := by rw [h]; rfl
  have f24 : (T.toList == [109, 97, 107, 101]) = false := by rw [h]; rfl
  have f25 : (T.toList == [103, 111, 110, 101]) = true := by rw [h]; rfl
  clear h
  go_enter Tryz.func152, Tryz.ntmps152
  go_wp2
  go_ret
  exact ⟨rfl, rfl⟩
set_option maxRecDepth 100000 in
theorem key_26 (T : ByteArray) (h : T.toList = [99, 111, 117, 110, 116]) (w : World) : Calls Tryz.prog 152 #[.string T] w fun e w' => e = .returned (.bool true) ∧ w' = w := by
  have f0 : (T.toList == [104, 101, 97, 100, 101, 114]) = false := by rw [h]; rfl
  have f1 : (T.toList == [109, 101, 116, 97]) = false := by rw [h]; rfl
  have f2 : (T.toList == [114, 101, 103, 105, 115, 116, 101, 114]) = false := by rw [h]; rfl
  have f3 : (T.toList == [99, 111, 117, 110, 116, 101, 114]) = false := by rw [h]; rfl
  have f4 : (T.toList == [109, 101, 116, 101, 114]) = false := by rw [h]; rfl
  have f5 : (T.toList == [112, 97, 114, 115, 101, 114]) = false := by rw [h]; rfl
  have f6 : (T.toList == [97, 99, 116, 105, 111, 110]) = false := by rw [h]; rfl
  have f7 : (T.toList == [116, 97, 98, 108, 101]) = false := by rw [h]; rfl
  have f8 : (T.toList == [99, 111, 110, 116, 114, 111, 108]) = false := by rw [h]; rfl
  have f9 : (T.toList == [100, 101, 112, 97, 114, 115, 101, 114]) = false := by rw [h]; rfl
  have f10 : (T.toList == [107, 101, 121]) = false := by rw [h]; rfl
  have f11 : (T.toList == [97, 99, 116, 105, 111, 110, 115]) = false := by rw [h]; rfl
  have f12 : (T.toList == [100, 101, 102, 97, 117, 108, 116]) = false := by rw [h]; rfl
  have f13 : (T.toList == [115, 105, 122, 101]) = false := by rw [h]; rfl
  have f14 : (T.toList == [116, 97, 107, 101]) = false := by rw [h]; rfl
  have f15 : (T.toList == [103, 111]) = false := by rw [h]; rfl
  have f16 : (T.toList == [115, 101, 108, 101, 99, 116]) = false := by rw [h]; rfl
  have f17 : (T.toList == [101, 108, 115, 101]) = false := by rw [h]; rfl
  have f18 : (T.toList == [101, 120, 97, 99, 116]) = false := by rw [h]; rfl
  have f19 : (T.toList == [112, 114, 101, 102, 105, 120]) = false := by rw [h]; rfl
  have f20 : (T.toList == [109, 97, 115, 107]) = false := by rw [h]; rfl
  have f21 : (T.toList == [114, 97, 110, 103, 101]) = false := by rw [h]; rfl
  have f22 : (T.toList == [105, 102]) = false := by rw [h]; rfl
  have f23 : (T.toList == [97, 112, 112, 108, 121]) = false := by rw [h]; rfl
  have f24 : (T.toList == [109, 97, 107, 101]) = false := by rw [h]; rfl
  have f25 : (T.toList == [103, 111, 110, 101]) = false := by rw [h]; rfl
  have f26 : (T.toList == [99, 111, 117, 110, 116]) = true := by rw [h]; rfl
  clear h
  go_enter Tryz.func152, Tryz.ntmps152
  go_wp2
  go_ret
  exact ⟨rfl, rfl⟩
set_option maxRecDepth 100000 in
theorem key_27 (T : ByteArray) (h : T.toList = [114, 101, 97, 100]) (w : World) : Calls Tryz.prog 152 #[.string T] w fun e w' => e = .returned (.bool true) ∧ w' = w := by
  have f0 : (T.toList == [104, 101, 97, 100, 101, 114]) = false := by rw [h]; rfl
  have f1 : (T.toList == [109, 101, 116, 97]) = false := by rw [h]; rfl
  have f2 : (T.toList == [114, 101, 103, 105, 115, 116, 101, 114]) = false := by rw [h]; rfl
  have f3 : (T.toList == [99, 111, 117, 110, 116, 101, 114]) = false := by rw [h]; rfl
  have f4 : (T.toList == [109, 101, 116, 101, 114]) = false := by rw [h]; rfl
  have f5 : (T.toList == [112, 97, 114, 115, 101, 114]) = false := by rw [h]; rfl
  have f6 : (T.toList == [97, 99, 116, 105, 111, 110]) = false := by rw [h]; rfl
  have f7 : (T.toList == [116, 97, 98, 108, 101]) = false := by rw [h]; rfl
  have f8 : (T.toList == [99, 111, 110, 116, 114, 111, 108]) = false := by rw [h]; rfl
  have f9 : (T.toList == [100, 101, 112, 97, 114, 115, 101, 114]) = false := by rw [h]; rfl
  have f10 : (T.toList == [107, 101, 121]) = false := by rw [h]; rfl
  have f11 : (T.toList == [97, 99, 116, 105, 111, 110, 115]) = false := by rw [h]; rfl
  have f12 : (T.toList == [100, 101, 102, 97, 117, 108, 116]) = false := by rw [h]; rfl
  have f13 : (T.toList == [115, 105, 122, 101]) = false := by rw [h]; rfl
  have f14 : (T.toList == [116, 97, 107, 101]) = false := by rw [h]; rfl
  have f15 : (T.toList == [103, 111]) = false := by rw [h]; rfl
  have f16 : (T.toList == [115, 101, 108, 101, 99, 116]) = false := by rw [h]; rfl
  have f17 : (T.toList == [101, 108, 115, 101]) = false := by rw [h]; rfl
  have f18 : (T.toList == [101, 120, 97, 99, 116]) = false := by rw [h]; rfl
  have f19 : (T.toList == [112, 114, 101, 102, 105, 120]) = false := by rw [h]; rfl
  have f20 : (T.toList == [109, 97, 115, 107]) = false := by rw [h]; rfl
  have f21 : (T.toList == [114, 97, 110, 103, 101]) = false := by rw [h]; rfl
  have f22 : (T.toList == [105, 102]) = false := by rw [h]; rfl
  have f23 : (T.toList == [97, 112, 112, 108, 121]) = false := by rw [h]; rfl
  have f24 : (T.toList == [109, 97, 107, 101]) = false := by rw [h]; rfl
  have f25 : (T.toList == [103, 111, 110, 101]) = false := by rw [h]; rfl
  have f26 : (T.toList == [99, 111, 117, 110, 116]) = false := by rw [h]; rfl
  have f27 : (T.toList == [114, 101, 97, 100]) = true := by rw [h]; rfl
  clear h
  go_enter Tryz.func152, Tryz.ntmps152
  go_wp2
  go_ret
  exact ⟨rfl, rfl⟩
set_option maxRecDepth 100000 in
theorem key_28 (T : ByteArray) (h : T.toList = [119, 114, 105, 116, 101]) (w : World) : Calls Tryz.prog 152 #[.string T] w fun e w' => e = .returned (.bool true) ∧ w' = w := by
  have f0 : (T.toList == [104, 101, 97, 100, 101, 114]) = false := by rw [h]; rfl
  have f1 : (T.toList == [109, 101, 116, 97]) = false := by rw [h]; rfl
  have f2 : (T.toList == [114, 101, 103, 105, 115, 116, 101, 114]) = false := by rw [h]; rfl
  have f3 : (T.toList == [99, 111, 117, 110, 116, 101, 114]) = false := by rw [h]; rfl
  have f4 : (T.toList == [109, 101, 116, 101, 114]) = false := by rw [h]; rfl
  have f5 : (T.toList == [112, 97, 114, 115, 101, 114]) = false := by rw [h]; rfl
  have f6 : (T.toList == [97, 99, 116, 105, 111, 110]) = false := by rw [h]; rfl
  have f7 : (T.toList == [116, 97, 98, 108, 101]) = false := by rw [h]; rfl
  have f8 : (T.toList == [99, 111, 110, 116, 114, 111, 108]) = false := by rw [h]; rfl
  have f9 : (T.toList == [100, 101, 112, 97, 114, 115, 101, 114]) = false := by rw [h]; rfl
  have f10 : (T.toList == [107, 101, 121]) = false := by rw [h]; rfl
  have f11 : (T.toList == [97, 99, 116, 105, 111, 110, 115]) = false := by rw [h]; rfl
  have f12 : (T.toList == [100, 101, 102, 97, 117, 108, 116]) = false := by rw [h]; rfl
  have f13 : (T.toList == [115, 105, 122, 101]) = false := by rw [h]; rfl
  have f14 : (T.toList == [116, 97, 107, 101]) = false := by rw [h]; rfl
  have f15 : (T.toList == [103, 111]) = false := by rw [h]; rfl
  have f16 : (T.toList == [115, 101, 108, 101, 99, 116]) = false := by rw [h]; rfl
  have f17 : (T.toList == [101, 108, 115, 101]) = false := by rw [h]; rfl
  have f18 : (T.toList == [101, 120, 97, 99, 116]) = false := by rw [h]; rfl
  have f19 : (T.toList == [112, 114, 101, 102, 105, 120]) = false := by rw [h]; rfl
  have f20 : (T.toList == [109, 97, 115, 107]) = false := by rw [h]; rfl
  have f21 : (T.toList == [114, 97, 110, 103, 101]) = false := by rw [h]; rfl
  have f22 : (T.toList == [105, 102]) = false := by rw [h]; rfl
  have f23 : (T.toList == [97, 112, 112, 108, 121]) = false := by rw [h]; rfl
  have f24 : (T.toList == [109, 97, 107, 101]) = false := by rw [h]; rfl
  have f25 : (T.toList == [103, 111, 110, 101]) = false := by rw [h]; rfl
  have f26 : (T.toList == [99, 111, 117, 110, 116]) = false := by rw [h]; rfl
  have f27 : (T.toList == [114, 101, 97, 100]) = false := by rw [h]; rfl
  have f28 : (T.toList == [119, 114, 105, 116, 101]) = true := by rw [h]; rfl
  clear h
  go_enter Tryz.func152, Tryz.ntmps152
  go_wp2
  go_ret
  exact ⟨rfl, rfl⟩
set_option maxRecDepth 100000 in
theorem key_29 (T : ByteArray) (h : T.toList = [114, 97, 110, 100, 111, 109]) (w : World) : Calls Tryz.prog 152 #[.string T] w fun e w' => e = .returned (.bool true) ∧ w' = w := by
  have f0 : (T.toList == [104, 101, 97, 100, 101, 114]) = false := by rw [h]; rfl
  have f1 : (T.toList == [109, 101, 116, 97]) = false := by rw [h]; rfl
  have f2 : (T.toList == [114, 101, 103, 105, 115, 116, 101, 114]) = false := by rw [h]; rfl
  have f3 : (T.toList == [99, 111, 117, 110, 116, 101, 114]) = false := by rw [h]; rfl
  have f4 : (T.toList == [109, 101, 116, 101, 114]) = false := by rw [h]; rfl
  have f5 : (T.toList == [112, 97, 114, 115, 101, 114]) = false := by rw [h]; rfl
  have f6 : (T.toList == [97, 99, 116, 105, 111, 110]) = false := by rw [h]; rfl
  have f7 : (T.toList == [116, 97, 98, 108, 101]) = false := by rw [h]; rfl
  have f8 : (T.toList == [99, 111, 110, 116, 114, 111, 108]) = false := by rw [h]; rfl
  have f9 : (T.toList == [100, 101, 112, 97, 114, 115, 101, 114]) = false := by rw [h]; rfl
  have f10 : (T.toList == [107, 101, 121]) = false := by rw [h]; rfl
  have f11 : (T.toList == [97, 99, 116, 105, 111, 110, 115]) = false := by rw [h]; rfl
  have f12 : (T.toList == [100, 101, 102, 97, 117, 108, 116]) = false := by rw [h]; rfl
  have f13 : (T.toList == [115, 105, 122, 101]) = false := by rw [h]; rfl
  have f14 : (T.toList == [116, 97, 107, 101]) = false := by rw [h]; rfl
  have f15 : (T.toList == [103, 111]) = false := by rw [h]; rfl
  have f16 : (T.toList == [115, 101, 108, 101, 99, 116]) = false := by rw [h]; rfl
  have f17 : (T.toList == [101, 108, 115, 101]) = false := by rw [h]; rfl
  have f18 : (T.toList == [101, 120, 97, 99, 116]) = false := by rw [h]; rfl
  have f19 : (T.toList == [112, 114, 101, 102, 105, 120]) = false := by rw [h]; rfl
  have f20 : (T.toList == [109, 97, 115, 107]) = false := by rw [h]; rfl
  have f21 : (T.toList == [114, 97, 110, 103, 101]) = false := by rw [h]; rfl
  have f22 : (T.toList == [105, 102]) = false := by rw [h]; rfl
  have f23 : (T.toList == [97, 112, 112, 108, 121]) = false := by rw [h]; rfl
  have f24 : (T.toList == [109, 97, 107, 101]) = false := by rw [h]; rfl
  have f25 : (T.toList == [103, 111, 110, 101]) = false := by rw [h]; rfl
  have f26 : (T.toList == [99, 111, 117, 110, 116]) = false := by rw [h]; rfl
  have f27 : (T.toList == [114, 101, 97, 100]) = false := by rw [h]; rfl
  have f28 : (T.toList == [119, 114, 105, 116, 101]) = false := by rw [h]; rfl
  have f29 : (T.toList == [114, 97, 110, 100, 111, 109]) = true := by rw [h]; rfl
  clear h
  go_enter Tryz.func152, Tryz.ntmps152
  go_wp2
  go_ret
  exact ⟨rfl, rfl⟩
set_option maxRecDepth 100000 in
theorem key_30 (T : ByteArray) (h : T.toList = [100, 114, 111, 112]) (w : World) : Calls Tryz.prog 152 #[.string T] w fun e w' => e = .returned (.bool true) ∧ w' = w := by
  have f0 : (T.toList == [104, 101, 97, 100, 101, 114]) = false := by rw [h]; rfl
  have f1 : (T.toList == [109, 101, 116, 97]) = false := by rw [h]; rfl
  have f2 : (T.toList == [114, 101, 103, 105, 115, 116, 101, 114]) = false := by rw [h]; rfl
  have f3 : (T.toList == [99, 111, 117, 110, 116, 101, 114]) = false := by rw [h]; rfl
  have f4 : (T.toList == [109, 101, 116, 101, 114]) = false := by rw [h]; rfl
  have f5 : (T.toList == [112, 97, 114, 115, 101, 114]) = false := by rw [h]; rfl
  have f6 : (T.toList == [97, 99, 116, 105, 111, 110]) = false := by rw [h]; rfl
  have f7 : (T.toList == [116, 97, 98, 108, 101]) = false := by rw [h]; rfl
  have f8 : (T.toList == [99, 111, 110, 116, 114, 111, 108]) = false := by rw [h]; rfl
  have f9 : (T.toList == [100, 101, 112, 97, 114, 115, 101, 114]) = false := by rw [h]; rfl
  have f10 : (T.toList == [107, 101, 121]) = false := by rw [h]; rfl
  have f11 : (T.toList == [97, 99, 116, 105, 111, 110, 115]) = false := by rw [h]; rfl
  have f12 : (T.toList == [100, 101, 102, 97, 117, 108, 116]) = false := by rw [h]; rfl
  have f13 : (T.toList == [115, 105, 122, 101]) = false := by rw [h]; rfl
  have f14 : (T.toList == [116, 97, 107, 101]) = false := by rw [h]; rfl
  have f15 : (T.toList == [103, 111]) = false := by rw [h]; rfl
  have f16 : (T.toList == [115, 101, 108, 101, 99, 116]) = false := by rw [h]; rfl
  have f17 : (T.toList == [101, 108, 115, 101]) = false := by rw [h]; rfl
  have f18 : (T.toList == [101, 120, 97, 99, 116]) = false := by rw [h]; rfl
  have f19 : (T.toList == [112, 114, 101, 102, 105, 120]) = false := by rw [h]; rfl
  have f20 : (T.toList == [109, 97, 115, 107]) = false := by rw [h]; rfl
  have f21 : (T.toList == [114, 97, 110, 103, 101]) = false := by rw [h]; rfl
  have f22 : (T.toList == [105, 102]) = false := by rw [h]; rfl
  have f23 : (T.toList == [97, 112, 112, 108, 121]) = false := by rw [h]; rfl
  have f24 : (T.toList == [109, 97, 107, 101]) = false := by rw [h]; rfl
  have f25 : (T.toList == [103, 111, 110, 101]) = false := by rw [h]; rfl
  have f26 : (T.toList == [99, 111, 117, 110, 116]) = false := by rw [h]; rfl
  have f27 : (T.toList == [114, 101, 97, 100]) = false := by rw [h]; rfl
  have f28 : (T.toList == [119, 114, 105, 116, 101]) = false := by rw [h]; rfl
  have f29 : (T.toList == [114, 97, 110, 100, 111, 109]) = false := by rw [h]; rfl
  have f30 : (T.toList == [100, 114, 111, 112]) = true := by rw [h]; rfl
  clear h
  go_enter Tryz.func152, Tryz.ntmps152
  go_wp2
  go_ret
  exact ⟨rfl, rfl⟩
set_option maxRecDepth 100000 in
theorem key_31 (T : ByteArray) (h : T.toList = [100, 105, 103, 101, 115, 116]) (w : World) : Calls Tryz.prog 152 #[.string T] w fun e w' => e = .returned (.bool true) ∧ w' = w := by
  have f0 : (T.toList == [104, 101, 97, 100, 101, 114]) = false := by rw [h]; rfl
  have f1 : (T.toList == [109, 101, 116, 97]) = false := by rw [h]; rfl
  have f2 : (T.toList == [114, 101, 103, 105, 115, 116, 101, 114]) = false := by rw [h]; rfl
  have f3 : (T.toList == [99, 111, 117, 110, 116, 101, 114]) = false := by rw [h]; rfl
  have f4 : (T.toList == [109, 101, 116, 101, 114]) = false := by rw [h]; rfl
  have f5 : (T.toList == [112, 97, 114, 115, 101, 114]) = false := by rw [h]; rfl
  have f6 : (T.toList == [97, 99, 116, 105, 111, 110]) = false := by rw [h]; rfl
  have f7 : (T.toList == [116, 97, 98, 108, 101]) = false := by rw [h]; rfl
  have f8 : (T.toList == [99, 111, 110, 116, 114, 111, 108]) = false := by rw [h]; rfl
  have f9 : (T.toList == [100, 101, 112, 97, 114, 115, 101, 114]) = false := by rw [h]; rfl
  have f10 : (T.toList == [107, 101, 121]) = false := by rw [h]; rfl
  have f11 : (T.toList == [97, 99, 116, 105, 111, 110, 115]) = false := by rw [h]; rfl
  have f12 : (T.toList == [100, 101, 102, 97, 117, 108, 116]) = false := by rw [h]; rfl
  have f13 : (T.toList == [115, 105, 122, 101]) = false := by rw [h]; rfl
  have f14 : (T.toList == [116, 97, 107, 101]) = false := by rw [h]; rfl
  have f15 : (T.toList == [103, 111]) = false := by rw [h]; rfl
  have f16 : (T.toList == [115, 101, 108, 101, 99, 116]) = false := by rw [h]; rfl
  have f17 : (T.toList == [101, 108, 115, 101]) = false := by rw [h]; rfl
  have f18 : (T.toList == [101, 120, 97, 99, 116]) = false := by rw [h]; rfl
  have f19 : (T.toList == [112, 114, 101, 102, 105, 120]) = false := by rw [h]; rfl
  have f20 : (T.toList == [109, 97, 115, 107]) = false := by rw [h]; rfl
  have f21 : (T.toList == [114, 97, 110, 103, 101]) = false := by rw [h]; rfl
  have f22 : (T.toList == [105, 102]) = false := by rw [h]; rfl
  have f23 : (T.toList == [97, 112, 112, 108, 121]) = false := by rw [h]; rfl
  have f24 : (T.toList == [109, 97, 107, 101]) = false := by rw [h]; rfl
  have f25 : (T.toList == [103, 111, 110, 101]) = false := by rw [h]; rfl
  have f26 : (T.toList == [99, 111, 117, 110, 116]) = false := by rw [h]; rfl
  have f27 : (T.toList == [114, 101, 97, 100]) = false := by rw [h]; rfl
  have f28 : (T.toList == [119, 114, 105, 116, 101]) = false := by rw [h]; rfl
  have f29 : (T.toList == [114, 97, 110, 100, 111, 109]) = false := by rw [h]; rfl
  have f30 : (T.toList == [100, 114, 111, 112]) = false := by rw [h]; rfl
  have f31 : (T.toList == [100, 105, 103, 101, 115, 116]) = true := by rw [h]; rfl
  clear h
  go_enter Tryz.func152, Tryz.ntmps152
  go_wp2
  go_ret
  exact ⟨rfl, rfl⟩
set_option maxRecDepth 100000 in
theorem key_32 (T : ByteArray) (h : T.toList = [99, 108, 111, 110, 101]) (w : World) : Calls Tryz.prog 152 #[.string T] w fun e w' => e = .returned (.bool true) ∧ w' = w := by
  have f0 : (T.toList == [104, 101, 97, 100, 101, 114]) = false := by rw [h]; rfl
  have f1 : (T.toList == [109, 101, 116, 97]) = false := by rw [h]; rfl
  have f2 : (T.toList == [114, 101, 103, 105, 115, 116, 101, 114]) = false := by rw [h]; rfl
  have f3 : (T.toList == [99, 111, 117, 110, 116, 101, 114]) = false := by rw [h]; rfl
  have f4 : (T.toList == [109, 101, 116, 101, 114]) = false := by rw [h]; rfl
  have f5 : (T.toList == [112, 97, 114, 115, 101, 114]) = false := by rw [h]; rfl
  have f6 : (T.toList == [97, 99, 116, 105, 111, 110]) = false := by rw [h]; rfl
  have f7 : (T.toList == [116, 97, 98, 108, 101]) = false := by rw [h]; rfl
  have f8 : (T.toList == [99, 111, 110, 116, 114, 111, 108]) = false := by rw [h]; rfl
  have f9 : (T.toList == [100, 101, 112, 97, 114, 115, 101, 114]) = false := by rw [h]; rfl
  have f10 : (T.toList == [107, 101, 121]) = false := by rw [h]; rfl
  have f11 : (T.toList == [97, 99, 116, 105, 111, 110, 115]) = false := by rw [h]; rfl
  have f12 : (T.toList == [100, 101, 102, 97, 117, 108, 116]) = false := by rw [h]; rfl
  have f13 : (T.toList == [115, 105, 122, 101]) = false := by rw [h]; rfl
  have f14 : (T.toList == [116, 97, 107, 101]) = false := by rw [h]; rfl
  have f15 : (T.toList == [103, 111]) = false := by rw [h]; rfl
  have f16 : (T.toList == [115, 101, 108, 101, 99, 116]) = false := by rw [h]; rfl
  have f17 : (T.toList == [101, 108, 115, 101]) = false := by rw [h]; rfl
  have f18 : (T.toList == [101, 120, 97, 99, 116]) = false := by rw [h]; rfl
  have f19 : (T.toList == [112, 114, 101, 102, 105, 120]) = false := by rw [h]; rfl
  have f20 : (T.toList == [109, 97, 115, 107]) = false := by rw [h]; rfl
  have f21 : (T.toList == [114, 97, 110, 103, 101]) = false := by rw [h]; rfl
  have f22 : (T.toList == [105, 102]) = false := by rw [h]; rfl
  have f23 : (T.toList == [97, 112, 112, 108, 121]) = false := by rw [h]; rfl
  have f24 : (T.toList == [109, 97, 107, 101]) = false := by rw [h]; rfl
  have f25 : (T.toList == [103, 111, 110, 101]) = false := by rw [h]; rfl
  have f26 : (T.toList == [99, 111, 117, 110, 116]) = false := by rw [h]; rfl
  have f27 : (T.toList == [114, 101, 97, 100]) = false := by rw [h]; rfl
  have f28 : (T.toList == [119, 114, 105, 116, 101]) = false := by rw [h]; rfl
  have f29 : (T.toList == [114, 97, 110, 100, 111, 109]) = false := by rw [h]; rfl
  have f30 : (T.toList == [100, 114, 111, 112]) = false := by rw [h]; rfl
  have f31 : (T.toList == [100, 105, 103, 101, 115, 116]) = false := by rw [h]; rfl
  have f32 : (T.toList == [99, 108, 111, 110, 101]) = true := by rw [h]; rfl
  clear h
  go_enter Tryz.func152, Tryz.ntmps152
  go_wp2
  go_ret
  exact ⟨rfl, rfl⟩
set_option maxRecDepth 100000 in
theorem key_33 (T : ByteArray) (h : T.toList = [97, 103, 97, 105, 110]) (w : World) : Calls Tryz.prog 152 #[.string T] w fun e w' => e = .returned (.bool true) ∧ w' = w := by
  have f0 : (T.toList == [104, 101, 97, 100, 101, 114]) = false := by rw [h]; rfl
  have f1 : (T.toList == [109, 101, 116, 97]) = false := by rw [h]; rfl
  have f2 : (T.toList == [114, 101, 103, 105, 115, 116, 101, 114]) = false := by rw [h]; rfl
  have f3 : (T.toList == [99, 111, 117, 110, 116, 101, 114]) = false := by rw [h]; rfl
  have f4 : (T.toList == [109, 101, 116, 101, 114]) = false := by rw [h]; rfl
  have f5 : (T.toList == [112, 97, 114, 115, 101, 114]) = false := by rw [h]; rfl
  have f6 : (T.toList == [97, 99, 116, 105, 111, 110]) = false := by rw [h]; rfl
  have f7 : (T.toList == [116, 97, 98, 108, 101]) = false := by rw [h]; rfl
  have f8 : (T.toList == [99, 111, 110, 116, 114, 111, 108]) = false := by rw [h]; rfl
  have f9 : (T.toList == [100, 101, 112, 97, 114, 115, 101, 114]) = false := by rw [h]; rfl
  have f10 : (T.toList == [107, 101, 121]) = false := by rw [h]; rfl
  have f11 : (T.toList == [97, 99, 116, 105, 111, 110, 115]) = false := by rw [h]; rfl
  have f12 : (T.toList == [100, 101, 102, 97, 117, 108, 116]) = false := by rw [h]; rfl
  have f13 : (T.toList == [115, 105, 122, 101]) = false := by rw [h]; rfl
  have f14 : (T.toList == [116, 97, 107, 101]) = false := by rw [h]; rfl
  have f15 : (T.toList == [103, 111]) = false := by rw [h]; rfl
  have f16 : (T.toList == [115, 101, 108, 101, 99, 116]) = false := by rw [h]; rfl
  have f17 : (T.toList == [101, 108, 115, 101]) = false := by rw [h]; rfl
  have f18 : (T.toList == [101, 120, 97, 99, 116]) = false := by rw [h]; rfl
  have f19 : (T.toList == [112, 114, 101, 102, 105, 120]) = false := by rw [h]; rfl
  have f20 : (T.toList == [109, 97, 115, 107]) = false := by rw [h]; rfl
  have f21 : (T.toList == [114, 97, 110, 103, 101]) = false := by rw [h]; rfl
  have f22 : (T.toList == [105, 102]) = false := by rw [h]; rfl
  have f23 : (T.toList == [97, 112, 112, 108, 121]) = false := by rw [h]; rfl
  have f24 : (T.toList == [109, 97, 107, 101]) = false := by rw [h]; rfl
  have f25 : (T.toList == [103, 111, 110, 101]) = false := by rw [h]; rfl
  have f26 : (T.toList == [99, 111, 117, 110, 116]) = false := by rw [h]; rfl
  have f27 : (T.toList == [114, 101, 97, 100]) = false := by rw [h]; rfl
  have f28 : (T.toList == [119, 114, 105, 116, 101]) = false := by rw [h]; rfl
  have f29 : (T.toList == [114, 97, 110, 100, 111, 109]) = false := by rw [h]; rfl
  have f30 : (T.toList == [100, 114, 111, 112]) = false := by rw [h]; rfl
  have f31 : (T.toList == [100, 105, 103, 101, 115, 116]) = false := by rw [h]; rfl
  have f32 : (T.toList == [99, 108, 111, 110, 101]) = false := by rw [h]; rfl
  have f33 : (T.toList == [97, 103, 97, 105, 110]) = true := by rw [h]; rfl
  clear h
  go_enter Tryz.func152, Tryz.ntmps152
  go_wp2
  go_ret
  exact ⟨rfl, rfl⟩
set_option maxRecDepth 100000 in
theorem key_34 (T : ByteArray) (h : T.toList = [114, 111, 117, 110, 100]) (w : World) : Calls Tryz.prog 152 #[.string T] w fun e w' => e = .returned (.bool true) ∧ w' = w := by
  have f0 : (T.toList == [104, 101, 97, 100, 101, 114]) = false := by rw [h]; rfl
  have f1 : (T.toList == [109, 101, 116, 97]) = false := by rw [h]; rfl
  have f2 : (T.toList == [114, 101, 103, 105, 115, 116, 101, 114]) = false := by rw [h]; rfl
  have f3 : (T.toList == [99, 111, 117, 110, 116, 101, 114]) = false := by rw [h]; rfl
  have f4 : (T.toList == [109, 101, 116, 101, 114]) = false := by rw [h]; rfl
  have f5 : (T.toList == [112, 97, 114, 115, 101, 114]) = false := by rw [h]; rfl
  have f6 : (T.toList == [97, 99, 116, 105, 111, 110]) = false := by rw [h]; rfl
  have f7 : (T.toList == [116, 97, 98, 108, 101]) = false := by rw [h]; rfl
  have f8 : (T.toList == [99, 111, 110, 116, 114, 111, 108]) = false := by rw [h]; rfl
  have f9 : (T.toList == [100, 101, 112, 97, 114, 115, 101, 114]) = false := by rw [h]; rfl
  have f10 : (T.toList == [107, 101, 121]) = false := by rw [h]; rfl
  have f11 : (T.toList == [97, 99, 116, 105, 111, 110, 115]) = false := by rw [h]; rfl
  have f12 : (T.toList == [100, 101, 102, 97, 117, 108, 116]) = false := by rw [h]; rfl
  have f13 : (T.toList == [115, 105, 122, 101]) = false := by rw [h]; rfl
  have f14 : (T.toList == [116, 97, 107, 101]) = false := by rw [h]; rfl
  have f15 : (T.toList == [103, 111]) = false := by rw [h]; rfl
  have f16 : (T.toList == [115, 101, 108, 101, 99, 116]) = false := by rw [h]; rfl
  have f17 : (T.toList == [101, 108, 115, 101]) = false := by rw [h]; rfl
  have f18 : (T.toList == [101, 120, 97, 99, 116]) = false := by rw [h]; rfl
  have f19 : (T.toList == [112, 114, 101, 102, 105, 120]) = false := by rw [h]; rfl
  have f20 : (T.toList == [109, 97, 115, 107]) = false := by rw [h]; rfl
  have f21 : (T.toList == [114, 97, 110, 103, 101]) = false := by rw [h]; rfl
  have f22 : (T.toList == [105, 102]) = false := by rw [h]; rfl
  have f23 : (T.toList == [97, 112, 112, 108, 121]) = false := by rw [h]; rfl
  have f24 : (T.toList == [109, 97, 107, 101]) = false := by rw [h]; rfl
  have f25 : (T.toList == [103, 111, 110, 101]) = false := by rw [h]; rfl
  have f26 : (T.toList == [99, 111, 117, 110, 116]) = false := by rw [h]; rfl
  have f27 : (T.toList == [114, 101, 97, 100]) = false := by rw [h]; rfl
  have f28 : (T.toList == [119, 114, 105, 116, 101]) = false := by rw [h]; rfl
  have f29 : (T.toList == [114, 97, 110, 100, 111, 109]) = false := by rw [h]; rfl
  have f30 : (T.toList == [100, 114, 111, 112]) = false := by rw [h]; rfl
  have f31 : (T.toList == [100, 105, 103, 101, 115, 116]) = false := by rw [h]; rfl
  have f32 : (T.toList == [99, 108, 111, 110, 101]) = false := by rw [h]; rfl
  have f33 : (T.toList == [97, 103, 97, 105, 110]) = false := by rw [h]; rfl
  have f34 : (T.toList == [114, 111, 117, 110, 100]) = true := by rw [h]; rfl
  clear h
  go_enter Tryz.func152, Tryz.ntmps152
  go_wp2
  go_ret
  exact ⟨rfl, rfl⟩
set_option maxRecDepth 100000 in
theorem key_35 (T : ByteArray) (h : T.toList = [118, 97, 108, 105, 100]) (w : World) : Calls Tryz.prog 152 #[.string T] w fun e w' => e = .returned (.bool true) ∧ w' = w := by
  have f0 : (T.toList == [104, 101, 97, 100, 101, 114]) = false := by rw [h]; rfl
  have f1 : (T.toList == [109, 101, 116, 97]) = false := by rw [h]; rfl
  have f2 : (T.toList == [114, 101, 103, 105, 115, 116, 101, 114]) = false := by rw [h]; rfl
  have f3 : (T.toList == [99, 111, 117, 110, 116, 101, 114]) = false := by rw [h]; rfl
  have f4 : (T.toList == [109, 101, 116, 101, 114]) = false := by rw [h]; rfl
  have f5 : (T.toList == [112, 97, 114, 115, 101, 114]) = false := by rw [h]; rfl
  have f6 : (T.toList == [97, 99, 116, 105, 111, 110]) = false := by rw [h]; rfl
  have f7 : (T.toList == [116, 97, 98, 108, 101]) = false := by rw [h]; rfl
  have f8 : (T.toList == [99, 111, 110, 116, 114, 111, 108]) = false := by rw [h]; rfl
  have f9 : (T.toList == [100, 101, 112, 97, 114, 115, 101, 114]) = false := by rw [h]; rfl
  have f10 : (T.toList == [107, 101, 121]) = false := by rw [h]; rfl
  have f11 : (T.toList == [97, 99, 116, 105, 111, 110, 115]) = false := by rw [h]; rfl
  have f12 : (T.toList == [100, 101, 102, 97, 117, 108, 116]) = false := by rw [h]; rfl
  have f13 : (T.toList == [115, 105, 122, 101]) = false := by rw [h]; rfl
  have f14 : (T.toList == [116, 97, 107, 101]) = false := by rw [h]; rfl
  have f15 : (T.toList == [103, 111]) = false := by rw [h]; rfl
  have f16 : (T.toList == [115, 101, 108, 101, 99, 116]) = false := by rw [h]; rfl
  have f17 : (T.toList == [101, 108, 115, 101]) = false := by rw [h]; rfl
  have f18 : (T.toList == [101, 120, 97, 99, 116]) = false := by rw [h]; rfl
  have f19 : (T.toList == [112, 114, 101, 102, 105, 120]) = false := by rw [h]; rfl
  have f20 : (T.toList == [109, 97, 115, 107]) = false := by rw [h]; rfl
  have f21 : (T.toList == [114, 97, 110, 103, 101]) = false := by rw [h]; rfl
  have f22 : (T.toList == [105, 102]) = false := by rw [h]; rfl
  have f23 : (T.toList == [97, 112, 112, 108, 121]) = false := by rw [h]; rfl
  have f24 : (T.toList == [109, 97, 107, 101]) = false := by rw [h]; rfl
  have f25 : (T.toList == [103, 111, 110, 101]) = false := by rw [h]; rfl
  have f26 : (T.toList == [99, 111, 117, 110, 116]) = false := by rw [h]; rfl
  have f27 : (T.toList == [114, 101, 97, 100]) = false := by rw [h]; rfl
  have f28 : (T.toList == [119, 114, 105, 116, 101]) = false := by rw [h]; rfl
  have f29 : (T.toList == [114, 97, 110, 100, 111, 109]) = false := by rw [h]; rfl
  have f30 : (T.toList == [100, 114, 111, 112]) = false := by rw [h]; rfl
  have f31 : (T.toList == [100, 105, 103, 101, 115, 116]) = false := by rw [h]; rfl
  have f32 : (T.toList == [99, 108, 111, 110, 101]) = false := by rw [h]; rfl
  have f33 : (T.toList == [97, 103, 97, 105, 110]) = false := by rw [h]; rfl
  have f34 : (T.toList == [114, 111, 117, 110, 100]) = false := by rw [h]; rfl
  have f35 : (T.toList == [118, 97, 108, 105, 100]) = true := by rw [h]; rfl
  clear h
  go_enter Tryz.func152, Tryz.ntmps152
  go_wp2
  go_ret
  exact ⟨rfl, rfl⟩
set_option maxRecDepth 100000 in
theorem key_36 (T : ByteArray) (h : T.toList = [99, 97, 115, 116]) (w : World) : Calls Tryz.prog 152 #[.string T] w fun e w' => e = .returned (.bool true) ∧ w' = w := by
  have f0 : (T.toList == [104, 101, 97, 100, 101, 114]) = false := by rw [h]; rfl
  have f1 : (T.toList == [109, 101, 116, 97]) = false := by rw [h]; rfl
  have f2 : (T.toList == [114, 101, 103, 105, 115, 116, 101, 114]) = false := by rw [h]; rfl
  have f3 : (T.toList == [99, 111, 117, 110, 116, 101, 114]) = false := by rw [h]; rfl
  have f4 : (T.toList == [109, 101, 116, 101, 114]) = false := by rw [h]; rfl
  have f5 : (T.toList == [112, 97, 114, 115, 101, 114]) = false := by rw [h]; rfl
  have f6 : (T.toList == [97, 99, 116, 105, 111, 110]) = false := by rw [h]; rfl
  have f7 : (T.toList == [116, 97, 98, 108, 101]) = false := by rw [h]; rfl
  have f8 : (T.toList == [99, 111, 110, 116, 114, 111, 108]) = false := by rw [h]; rfl
  have f9 : (T.toList == [100, 101, 112, 97, 114, 115, 101, 114]) = false := by rw [h]; rfl
  have f10 : (T.toList == [107, 101, 121]) = false := by rw [h]; rfl
  have f11 : (T.toList == [97, 99, 116, 105, 111, 110, 115]) = false := by rw [h]; rfl
  have f12 : (T.toList == [100, 101, 102, 97, 117, 108, 116]) = false := by rw [h]; rfl
  have f13 : (T.toList == [115, 105, 122, 101]) = false := by rw [h]; rfl
  have f14 : (T.toList == [116, 97, 107, 101]) = false := by rw [h]; rfl
  have f15 : (T.toList == [103, 111]) = false := by rw [h]; rfl
  have f16 : (T.toList == [115, 101, 108, 101, 99, 116]) = false := by rw [h]; rfl
  have f17 : (T.toList == [101, 108, 115, 101]) = false := by rw [h]; rfl
  have f18 : (T.toList == [101, 120, 97, 99, 116]) = false := by rw [h]; rfl
  have f19 : (T.toList == [112, 114, 101, 102, 105, 120]) = false := by rw [h]; rfl
  have f20 : (T.toList == [109, 97, 115, 107]) = false := by rw [h]; rfl
  have f21 : (T.toList == [114, 97, 110, 103, 101]) = false := by rw [h]; rfl
  have f22 : (T.toList == [105, 102]) = false := by rw [h]; rfl
  have f23 : (T.toList == [97, 112, 112, 108, 121]) = false := by rw [h]; rfl
  have f24 : (T.toList == [109, 97, 107, 101]) = false := by rw [h]; rfl
  have f25 : (T.toList == [103, 111, 110, 101]) = false := by rw [h]; rfl
  have f26 : (T.toList == [99, 111, 117, 110, 116]) = false := by rw [h]; rfl
  have f27 : (T.toList == [114, 101, 97, 100]) = false := by rw [h]; rfl
  have f28 : (T.toList == [119, 114, 105, 116, 101]) = false := by rw [h]; rfl
  have f29 : (T.toList == [114, 97, 110, 100, 111, 109]) = false := by rw [h]; rfl
  have f30 : (T.toList == [100, 114, 111, 112]) = false := by rw [h]; rfl
  have f31 : (T.toList == [100, 105, 103, 101, 115, 116]) = false := by rw [h]; rfl
  have f32 : (T.toList == [99, 108, 111, 110, 101]) = false := by rw [h]; rfl
  have f33 : (T.toList == [97, 103, 97, 105, 110]) = false := by rw [h]; rfl
  have f34 : (T.toList == [114, 111, 117, 110, 100]) = false := by rw [h]; rfl
  have f35 : (T.toList == [118, 97, 108, 105, 100]) = false := by rw [h]; rfl
  have f36 : (T.toList == [99, 97, 115, 116]) = true := by rw [h]; rfl
  clear h
  go_enter Tryz.func152, Tryz.ntmps152
  go_wp2
  go_ret
  exact ⟨rfl, rfl⟩
set_option maxRecDepth 100000 in
theorem key_37 (T : ByteArray) (h : T.toList = [104, 97, 115, 104]) (w : World) : Calls Tryz.prog 152 #[.string T] w fun e w' => e = .returned (.bool true) ∧ w' = w := by
  have f0 : (T.toList == [104, 101, 97, 100, 101, 114]) = false := by rw [h]; rfl
  have f1 : (T.toList == [109, 101, 116, 97]) = false := by rw [h]; rfl
  have f2 : (T.toList == [114, 101, 103, 105, 115, 116, 101, 114]) = false := by rw [h]; rfl
  have f3 : (T.toList == [99, 111, 117, 110, 116, 101, 114]) = false := by rw [h]; rfl
  have f4 : (T.toList == [109, 101, 116, 101, 114]) = false := by rw [h]; rfl
  have f5 : (T.toList == [112, 97, 114, 115, 101, 114]) = false := by rw [h]; rfl
  have f6 : (T.toList == [97, 99, 116, 105, 111, 110]) = false := by rw [h]; rfl
  have f7 : (T.toList == [116, 97, 98, 108, 101]) = false := by rw [h]; rfl
  have f8 : (T.toList == [99, 111, 110, 116, 114, 111, 108]) = false := by rw [h]; rfl
  have f9 : (T.toList == [100, 101, 112, 97, 114, 115, 101, 114]) = false := by rw [h]; rfl
  have f10 : (T.toList == [107, 101, 121]) = false := by rw [h]; rfl
  have f11 : (T.toList == [97, 99, 116, 105, 111, 110, 115]) = false := by rw [h]; rfl
  have f12 : (T.toList == [100, 101, 102, 97, 117, 108, 116]) = false := by rw [h]; rfl
  have f13 : (T.toList == [115, 105, 122, 101]) = false := by rw [h]; rfl
  have f14 : (T.toList == [116, 97, 107, 101]) = false := by rw [h]; rfl
  have f15 : (T.toList == [103, 111]) = false := by rw [h]; rfl
  have f16 : (T.toList == [115, 101, 108, 101, 99, 116]) = false := by rw [h]; rfl
  have f17 : (T.toList == [101, 108, 115, 101]) = false := by rw [h]; rfl
  have f18 : (T.toList == [101, 120, 97, 99, 116]) = false := by rw [h]; rfl
  have f19 : (T.toList == [112, 114, 101, 102, 105, 120]) = false := by rw [h]; rfl
  have f20 : (T.toList == [109, 97, 115, 107]) = false := by rw [h]; rfl
  have f21 : (T.toList == [114, 97, 110, 103, 101]) = false := by rw [h]; rfl
  have f22 : (T.toList == [105, 102]) = false := by rw [h]; rfl
  have f23 : (T.toList == [97, 112, 112, 108, 121]) = false := by rw [h]; rfl
  have f24 : (T.toList == [109, 97, 107, 101]) = false := by rw [h]; rfl
  have f25 : (T.toList == [103, 111, 110, 101]) = false := by rw [h]; rfl
  have f26 : (T.toList == [99, 111, 117, 110, 116]) = false := by rw [h]; rfl
  have f27 : (T.toList == [114, 101, 97, 100]) = false := by rw [h]; rfl
  have f28 : (T.toList == [119, 114, 105, 116, 101]) = false := by rw [h]; rfl
  have f29 : (T.toList == [114, 97, 110, 100, 111, 109]) = false := by rw [h]; rfl
  have f30 : (T.toList == [100, 114, 111, 112]) = false := by rw [h]; rfl
  have f31 : (T.toList == [100, 105, 103, 101, 115, 116]) = false := by rw [h]; rfl
  have f32 : (T.toList == [99, 108, 111, 110, 101]) = false := by rw [h]; rfl
  have f33 : (T.toList == [97, 103, 97, 105, 110]) = false := by rw [h]; rfl
  have f34 : (T.toList == [114, 111, 117, 110, 100]) = false := by rw [h]; rfl
  have f35 : (T.toList == [118, 97, 108, 105, 100]) = false := by rw [h]; rfl
  have f36 : (T.toList == [99, 97, 115, 116]) = false := by rw [h]; rfl
  have f37 : (T.toList == [104, 97, 115, 104]) = true := by rw [h]; rfl
  clear h
  go_enter Tryz.func152, Tryz.ntmps152
  go_wp2
  go_ret
  exact ⟨rfl, rfl⟩
set_option maxRecDepth 100000 in
theorem key_no (T : ByteArray) (h : ¬ T.toList ∈ kws) (w : World) : Calls Tryz.prog 152 #[.string T] w fun e w' => e = .returned (.bool false) ∧ w' = w := by
  have hf : ∀ l, l ∈ kws → (T.toList == l) = false := fun l hl => beq_eq_false_iff_ne.2 (fun e => h (by rw [e]; exact hl))
  have f0 := hf [104, 101, 97, 100, 101, 114] (by decide)
  have f1 := hf [109, 101, 116, 97] (by decide)
  have f2 := hf [114, 101, 103, 105, 115, 116, 101, 114] (by decide)
  have f3 := hf [99, 111, 117, 110, 116, 101, 114] (by decide)
  have f4 := hf [109, 101, 116, 101, 114] (by decide)
  have f5 := hf [112, 97, 114, 115, 101, 114] (by decide)
  have f6 := hf [97, 99, 116, 105, 111, 110] (by decide)
  have f7 := hf [116, 97, 98, 108, 101] (by decide)
  have f8 := hf [99, 111, 110, 116, 114, 111, 108] (by decide)
  have f9 := hf [100, 101, 112, 97, 114, 115, 101, 114] (by decide)
  have f10 := hf [107, 101, 121] (by decide)
  have f11 := hf [97, 99, 116, 105, 111, 110, 115] (by decide)
  have f12 := hf [100, 101, 102, 97, 117, 108, 116] (by decide)
  have f13 := hf [115, 105, 122, 101] (by decide)
  have f14 := hf [116, 97, 107, 101] (by decide)
  have f15 := hf [103, 111] (by decide)
  have f16 := hf [115, 101, 108, 101, 99, 116] (by decide)
  have f17 := hf [101, 108, 115, 101] (by decide)
  have f18 := hf [101, 120, 97, 99, 116] (by decide)
  have f19 := hf [112, 114, 101, 102, 105, 120] (by decide)
  have f20 := hf [109, 97, 115, 107] (by decide)
  have f21 := hf [114, 97, 110, 103, 101] (by decide)
  have f22 := hf [105, 102] (by decide)
  have f23 := hf [97, 112, 112, 108, 121] (by decide)
  have f24 := hf [109, 97, 107, 101] (by decide)
  have f25 := hf [103, 111, 110, 101] (by decide)
  have f26 := hf [99, 111, 117, 110, 116] (by decide)
  have f27 := hf [114, 101, 97, 100] (by decide)
  have f28 := hf [119, 114, 105, 116, 101] (by decide)
  have f29 := hf [114, 97, 110, 100, 111, 109] (by decide)
  have f30 := hf [100, 114, 111, 112] (by decide)
  have f31 := hf [100, 105, 103, 101, 115, 116] (by decide)
  have f32 := hf [99, 108, 111, 110, 101] (by decide)
  have f33 := hf [97, 103, 97, 105, 110] (by decide)
  have f34 := hf [114, 111, 117, 110, 100] (by decide)
  have f35 := hf [118, 97, 108, 105, 100] (by decide)
  have f36 := hf [99, 97, 115, 116] (by decide)
  have f37 := hf [104, 97, 115, 104] (by decide)
  clear h hf
  go_enter Tryz.func152, Tryz.ntmps152
  go_wp2
  go_ret
  exact ⟨rfl, rfl⟩
theorem isKey_any (l : List UInt8) (w : World) : Calls Tryz.prog 152 #[.string (txt l)] w fun e w' => e = .returned (.bool (decide (l ∈ kws))) ∧ w' = w := by
  have hT : (txt l).toList = l := by rw [Lib.toList_data, txt_data]
  by_cases h : l ∈ kws
  · rw [decide_eq_true h]
    simp only [kws, List.mem_cons, List.not_mem_nil, or_false] at h
    rcases h with h | h | h | h | h | h | h | h | h | h | h | h | h | h | h | h | h | h | h | h | h | h | h | h | h | h | h | h | h | h | h | h | h | h | h | h | h | h
    · exact key_0 _ (hT.trans h) w
    · exact key_1 _ (hT.trans h) w
    · exact key_2 _ (hT.trans h) w
    · exact key_3 _ (hT.trans h) w
    · exact key_4 _ (hT.trans h) w
    · exact key_5 _ (hT.trans h) w
    · exact key_6 _ (hT.trans h) w
    · exact key_7 _ (hT.trans h) w
    · exact key_8 _ (hT.trans h) w
    · exact key_9 _ (hT.trans h) w
    · exact key_10 _ (hT.trans h) w
    · exact key_11 _ (hT.trans h) w
    · exact key_12 _ (hT.trans h) w
    · exact key_13 _ (hT.trans h) w
    · exact key_14 _ (hT.trans h) w
    · exact key_15 _ (hT.trans h) w
    · exact key_16 _ (hT.trans h) w
    · exact key_17 _ (hT.trans h) w
    · exact key_18 _ (hT.trans h) w
    · exact key_19 _ (hT.trans h) w
    · exact key_20 _ (hT.trans h) w
    · exact key_21 _ (hT.trans h) w
    · exact key_22 _ (hT.trans h) w
    · exact key_23 _ (hT.trans h) w
    · exact key_24 _ (hT.trans h) w
    · exact key_25 _ (hT.trans h) w
    · exact key_26 _ (hT.trans h) w
    · exact key_27 _ (hT.trans h) w
    · exact key_28 _ (hT.trans h) w
    · exact key_29 _ (hT.trans h) w
    · exact key_30 _ (hT.trans h) w
    · exact key_31 _ (hT.trans h) w
    · exact key_32 _ (hT.trans h) w
    · exact key_33 _ (hT.trans h) w
    · exact key_34 _ (hT.trans h) w
    · exact key_35 _ (hT.trans h) w
    · exact key_36 _ (hT.trans h) w
    · exact key_37 _ (hT.trans h) w
  · rw [decide_eq_false h]
    exact key_no _ (by rw [hT]; exact h) w
end Go.Proofs.YtcfopkaomknmjaaGreatDoor
