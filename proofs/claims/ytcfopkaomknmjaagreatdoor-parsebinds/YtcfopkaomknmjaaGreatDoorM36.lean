/- Pieces of the proof: PaSg. -/
import Derived.Test.YtcfopkaomknmjaaGreatDoorM35
/- ParseBinds: signed, walked. -/
namespace Go.Proofs.YtcfopkaomknmjaaGreatDoor
open Go.RowKit

theorem cat8 (a b : List UInt8) : txt a ++ txt b = txt (a ++ b) := by
  apply ByteArray.ext
  rw [ByteArray.data_append]
  unfold txt
  simp
theorem cat5 {a b : List UInt8} {A B : ByteArray} (hA : A = txt a) (hB : B = txt b) : (((⟨#[99, 111, 110, 116, 114, 111, 108, 32, 123, 32, 104, 46, 97, 32, 61, 32, 120, 32]⟩ ++ A) ++ ⟨#[32, 121, 32]⟩) ++ B) ++ (⟨#[32, 122, 59, 32, 125]⟩ : ByteArray) = txt (tx2 a b) := by
  subst hA hB
  have e1 : (⟨#[99, 111, 110, 116, 114, 111, 108, 32, 123, 32, 104, 46, 97, 32, 61, 32, 120, 32]⟩ : ByteArray) = txt preL8 := rfl
  have e2 : (⟨#[32, 121, 32]⟩ : ByteArray) = txt [32, 121, 32] := rfl
  have e3 : (⟨#[32, 122, 59, 32, 125]⟩ : ByteArray) = txt [32, 122, 59, 32, 125] := rfl
  rw [e1, e2, e3, cat8, cat8, cat8, cat8]
  rfl
def zEx : Array Value := #[.int .u8 0, .int .i64 0, .int .u64 0, .int .u64 0, .string ⟨#[]⟩, .string ⟨#[]⟩, .int .i64 0, .int .i64 0, .slice none 0 0, .int .i64 0]
set_option maxRecDepth 100000 in
set_option maxHeartbeats 4000000 in
theorem signed_err {a b : List UInt8} {A B : ByteArray} (hA : A = txt a) (hB : B = txt b) (ha : a.length ≤ 2) (hb : b.length ≤ 2) {x : Nat × Nat} (h : parseL (tx2 a b) = .error x) (h5 : x.2 = 5) (w : World) {bt : Nat} (hLs : Ls w) (hTw : Tws w bt) :
    Calls Tryz.prog 14 #[.string A, .string B] w fun e w' => e = .returned (.tuple #[.agg zEx, .bool false]) ∧ Below w.heap.size w w' := by
  have hB0 : Below w.heap.size w (w.alloc (.cells zEx 49)) := (Below.refl _ _).alloc (Nat.le_refl _) _
  have HP := hide (fun T (hT : T = txt (tx2 a b)) => parse_err h (by unfold tx2 preL8; simp; omega) T hT _ (hLs.below hB0) (hTw.below hB0))
  have HB0 := hide hB0
  have HC := hide (cat5 hA hB)
  have h0 : (((x.2 : Nat) : Int) == 0) = false := by rw [h5]; rfl
  have hsA : A.size = a.length := by rw [hA, txt_size]
  have hsB : B.size = b.length := by rw [hB, txt_size]
  have hs1 : ¬ 9223372036854775807 < 18 + A.size := by omega
  have hs2 : ¬ 9223372036854775807 < 18 + A.size + 3 := by omega
  have hs3 : ¬ 9223372036854775807 < 18 + A.size + 3 + B.size := by omega
  have hs4 : ¬ 9223372036854775807 < 18 + A.size + 3 + B.size + 5 := by omega
  have HZ := hide (heap_alloc_new w (.cells zEx 49))
  unfold zEx at *
  generalize ((x.2 : Nat) : Int) = er at *
  generalize ((x.1 : Nat) : Int) = ln at *
  clear hA hB ha hb h h5 hLs hTw hB0 hsA hsB
  go_enter Tryz.func14, Tryz.ntmps14
  go_wp2_with fail
  refine (HP.out _ HC.out).mono ?_
  rintro e w1 ⟨rfl, hb1⟩
  have B1 := hide (HB0.out.trans (hb1.mono HB0.out.size))
  have z1 := (hb1.block w.heap.size (by rw [World.size_alloc]; omega)).trans HZ.out
  have Z1 := hide z1
  have SFq := hide (fun j => cellA z1 j)
  clear hb1 z1
  go_wp2_with (first | (refine wpList_storeA rfl 49 _ _ rfl _ [.int .u8 0, .int .i64 0, .int .u64 0, .int .u64 0, .string ⟨#[]⟩, .string ⟨#[]⟩, .int .i64 0, .int .i64 0, .slice none 0 0, .int .i64 0] #[.int .u8 0, .int .i64 0, .int .u64 0, .int .u64 0, .string ⟨#[]⟩, .string ⟨#[]⟩, .int .i64 0, .int .i64 0, .slice none 0 0, .int .i64 0] 49 rfl rfl sz_expr Z1.out rfl (by intro u hu; simp at hu; rcases hu with rfl | rfl | rfl | rfl | rfl | rfl | rfl | rfl | rfl | rfl <;> rfl) ?_; intro w9 hw9; have HW9 := hide hw9; clear hw9))
  all_goals
    have hg := got0 (cs := [.int .u8 0, .int .i64 0, .int .u64 0, .int .u64 0, .string ⟨#[]⟩, .string ⟨#[]⟩, .int .i64 0, .int .i64 0, .slice none 0 0, .int .i64 0]) Z1.out rfl
    rw [← HW9.out] at hg
    have q0 := cellA hg 0; have q1 := cellA hg 1; have q2 := cellA hg 2; have q3 := cellA hg 3; have q4 := cellA hg 4; have q5 := cellA hg 5; have q6 := cellA hg 6; have q7 := cellA hg 7; have q8 := cellA hg 8; have q9 := cellA hg 9
    have hF := fr_all w.heap.size [.int .u8 0, .int .i64 0, .int .u64 0, .int .u64 0, .string ⟨#[]⟩, .string ⟨#[]⟩, .int .i64 0, .int .i64 0, .slice none 0 0, .int .i64 0] w1 0
    rw [← HW9.out] at hF
    exact bodyPost_ret (v := .tuple #[.agg #[.int .u8 0, .int .i64 0, .int .u64 0, .int .u64 0, .string ⟨#[]⟩, .string ⟨#[]⟩, .int .i64 0, .int .i64 0, .slice none 0 0, .int .i64 0], .bool false]) (by simp [results, Tryz.results14, go_sem, q0, q1, q2, q3, q4, q5, q6, q7, q8, q9]) rfl ⟨rfl, B1.out.trans (hF.below (fun b e => by have e' : b = w.heap.size := e; omega) B1.out.size)⟩
set_option maxRecDepth 100000 in
set_option maxHeartbeats 4000000 in
theorem signed_ok {a b : List UInt8} {A B : ByteArray} (hA : A = txt a) (hB : B = txt b) (ha : a.length ≤ 2) (hb : b.length ≤ 2) {d : Dc} {s : Sm} {x : Ex} (h : parseL (tx2 a b) = .ok [d]) (hs : d.body = [s]) (hx : s.args = [x]) (w : World) {bt : Nat} (hLs : Ls w) (hTw : Tws w bt) :
    Calls Tryz.prog 14 #[.string A, .string B] w fun e w' => ∃ i0 i1 i2 i3 t4 t5 i6 i7 s8 n8 c8 i9, e = .returned (.tuple #[.agg #[.int .u8 i0, .int .i64 i1, .int .u64 i2, .int .u64 i3, .string t4, .string t5, .int .i64 i6, .int .i64 i7, .slice s8 n8 c8, .int .i64 i9], .bool true]) ∧ Below w.heap.size w w' ∧ ListR ExR mkAgg 10 w' (fun b => w.heap.size < b ∧ b < w'.heap.size) (.slice s8 n8 c8) x.args := by
  have hB0 : Below w.heap.size w (w.alloc (.cells zEx 49)) := (Below.refl _ _).alloc (Nat.le_refl _) _
  have HP := hide (fun T (hT : T = txt (tx2 a b)) => parse_ok h (by unfold tx2 preL8; simp; omega) T hT _ (hLs.below hB0) (hTw.below hB0))
  have HB0 := hide hB0
  have HC := hide (cat5 hA hB)
  have HT : Hid (∀ W X v, ListR DeclR mkAgg 15 W X v [d] → ∃ b1 b2 b3 c1 c2 c3 va, Tree1 W X v d s x b1 b2 b3 c1 c2 c3 va) := fun W X v h => tree1 h hs hx
  have hsA : A.size = a.length := by rw [hA, txt_size]
  have hsB : B.size = b.length := by rw [hB, txt_size]
  have hs1 : ¬ 9223372036854775807 < 18 + A.size := by omega
  have hs2 : ¬ 9223372036854775807 < 18 + A.size + 3 := by omega
  have hs3 : ¬ 9223372036854775807 < 18 + A.size + 3 + B.size := by omega
  have hs4 : ¬ 9223372036854775807 < 18 + A.size + 3 + B.size + 5 := by omega
  have HZ := hide (heap_alloc_new w (.cells zEx 49))
  unfold zEx at *
  clear hA hB ha hb h hs hx hLs hTw hB0 hsA hsB
  go_enter Tryz.func14, Tryz.ntmps14
  go_wp2_with fail
  refine (HP.out _ HC.out).mono ?_
  rintro e w1 ⟨v, rfl, hv, hb1⟩
  obtain ⟨b1, b2, b3, c1, c2, c3, va, t1⟩ := HT.out _ _ _ hv
  obtain rfl := t1.v1
  obtain ⟨s8, n8, c8, rfl⟩ := ListR.form t1.argl
  have B1 := hide (HB0.out.trans (hb1.mono HB0.out.size))
  have z1 := (hb1.block w.heap.size (by rw [World.size_alloc]; omega)).trans HZ.out
  have Z1 := hide z1
  have HAL := hide t1.argl
  obtain ⟨e0, e1, e2, e3, e4, e5, e6, e7, e8, e9⟩ := t1.ex.at
  have gb := t1.bd; have ga := t1.ag
  generalize (x.op : Int) = n0 at *
  generalize (x.w : Int) = n1 at *
  generalize wHi x.v = n2 at *
  generalize wLo x.v = n3 at *
  generalize txt x.name = t4 at *
  generalize txt x.field = t5 at *
  generalize (x.n : Int) = n6 at *
  generalize (x.m : Int) = n7 at *
  generalize (x.line : Int) = n9 at *
  clear hb1 z1 t1 hv HT HP
  go_wp2_with (first | (refine wpList_storeA rfl 49 _ _ rfl _ [.int .u8 n0, .int .i64 n1, .int .u64 n2, .int .u64 n3, .string t4, .string t5, .int .i64 n6, .int .i64 n7, .slice s8 n8 c8, .int .i64 n9] #[.int .u8 0, .int .i64 0, .int .u64 0, .int .u64 0, .string ⟨#[]⟩, .string ⟨#[]⟩, .int .i64 0, .int .i64 0, .slice none 0 0, .int .i64 0] 49 rfl rfl sz_expr Z1.out rfl (by intro u hu; simp at hu; rcases hu with rfl | rfl | rfl | rfl | rfl | rfl | rfl | rfl | rfl | rfl <;> rfl) ?_; intro w9 hw9; have HW9 := hide hw9; clear hw9))
  have hg := got0 (cs := [.int .u8 n0, .int .i64 n1, .int .u64 n2, .int .u64 n3, .string t4, .string t5, .int .i64 n6, .int .i64 n7, .slice s8 n8 c8, .int .i64 n9]) Z1.out rfl
  rw [← HW9.out] at hg
  have q0 := cellA hg 0; have q1 := cellA hg 1; have q2 := cellA hg 2; have q3 := cellA hg 3; have q4 := cellA hg 4; have q5 := cellA hg 5; have q6 := cellA hg 6; have q7 := cellA hg 7; have q8 := cellA hg 8; have q9 := cellA hg 9
  have hF := fr_all w.heap.size [.int .u8 n0, .int .i64 n1, .int .u64 n2, .int .u64 n3, .string t4, .string t5, .int .i64 n6, .int .i64 n7, .slice s8 n8 c8, .int .i64 n9] w1 0
  rw [← HW9.out] at hF
  have hL9 := (ListR.ok exRep_ok mkAgg 10).frame HAL.out hF.size (fun b hb hl => hF.block b hl (fun e => by have e' : b = w.heap.size := e; have := hb.1; rw [World.size_alloc] at this; omega))
  refine bodyPost_ret (v := .tuple #[.agg #[.int .u8 n0, .int .i64 n1, .int .u64 n2, .int .u64 n3, .string t4, .string t5, .int .i64 n6, .int .i64 n7, .slice s8 n8 c8, .int .i64 n9], .bool true]) (by simp [results, Tryz.results14, go_sem, q0, q1, q2, q3, q4, q5, q6, q7, q8, q9]) rfl ?_
  exact ⟨_, _, _, _, _, _, _, _, _, _, _, _, rfl, B1.out.trans (hF.below (fun b e => by have e' : b = w.heap.size := e; omega) B1.out.size), (ListR.ok exRep_ok mkAgg 10).mono hL9 (fun b hb => ⟨by have := hb.1; rw [World.size_alloc] at this; omega, Nat.lt_of_lt_of_le hb.2 hF.size⟩)⟩
end Go.Proofs.YtcfopkaomknmjaaGreatDoor
