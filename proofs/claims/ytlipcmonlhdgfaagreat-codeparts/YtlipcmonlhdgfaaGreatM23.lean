/- Pieces of the proof: Acts. -/
import Derived.Test.YtlipcmonlhdgfaaGreatM22
import Derived.Shelf.Abstract
/- bits.Do, operation by operation. -/
namespace Go.Proofs.YtlipcmonlhdgfaaGreat
open Go.RowKit Go.Shelf

theorem okN_iff {n : Int} {v : Nat} : okN n v = true ↔ (1 ≤ n ∧ n ≤ 128) ∧ v < 2 ^ n.toNat := by simp [okN, mayBe]
theorem okN_top {n : Int} {v : Nat} (h : okN n v = true) : v < top := by
  obtain ⟨⟨_, h1⟩, h2⟩ := okN_iff.1 h
  exact Nat.lt_of_lt_of_le h2 (pow_le_top (by omega))
theorem wBool (r : Bool) : wHi r.toNat = 0 ∧ wLo r.toNat = (r.toNat : Nat) := by cases r <;> exact ⟨rfl, rfl⟩
theorem ent_add : ∀ args w, (callFunc 157 args).run Tryz.prog w = .ok (.enter 157 args) w := enters_of Tryz.func157 (by kernel_rfl) rfl
theorem ent_alike : ∀ args w, (callFunc 156 args).run Tryz.prog w = .ok (.enter 156 args) w := enters_of Tryz.func156 (by kernel_rfl) rfl
theorem ent_and : ∀ args w, (callFunc 160 args).run Tryz.prog w = .ok (.enter 160 args) w := enters_of Tryz.func160 (by kernel_rfl) rfl
theorem ent_anyWidths : ∀ args w, (callFunc 164 args).run Tryz.prog w = .ok (.enter 164 args) w := enters_of Tryz.func164 (by kernel_rfl) rfl
theorem ent_below : ∀ args w, (callFunc 175 args).run Tryz.prog w = .ok (.enter 175 args) w := enters_of Tryz.func175 (by kernel_rfl) rfl
theorem ent_cast : ∀ args w, (callFunc 171 args).run Tryz.prog w = .ok (.enter 171 args) w := enters_of Tryz.func171 (by kernel_rfl) rfl
theorem ent_cat : ∀ args w, (callFunc 169 args).run Tryz.prog w = .ok (.enter 169 args) w := enters_of Tryz.func169 (by kernel_rfl) rfl
theorem ent_down : ∀ args w, (callFunc 167 args).run Tryz.prog w = .ok (.enter 167 args) w := enters_of Tryz.func167 (by kernel_rfl) rfl
theorem ent_moved_1 : ∀ args w, (callFunc 191 args).run Tryz.prog w = .ok (.enter 191 args) w := enters_of Tryz.func191 (by kernel_rfl) rfl
theorem ent_mul : ∀ args w, (callFunc 159 args).run Tryz.prog w = .ok (.enter 159 args) w := enters_of Tryz.func159 (by kernel_rfl) rfl
theorem ent_not : ∀ args w, (callFunc 163 args).run Tryz.prog w = .ok (.enter 163 args) w := enters_of Tryz.func163 (by kernel_rfl) rfl
theorem ent_operations_1 : ∀ args w, (callFunc 173 args).run Tryz.prog w = .ok (.enter 173 args) w := enters_of Tryz.func173 (by kernel_rfl) rfl
theorem ent_operations_2 : ∀ args w, (callFunc 174 args).run Tryz.prog w = .ok (.enter 174 args) w := enters_of Tryz.func174 (by kernel_rfl) rfl
theorem ent_operations_3 : ∀ args w, (callFunc 176 args).run Tryz.prog w = .ok (.enter 176 args) w := enters_of Tryz.func176 (by kernel_rfl) rfl
theorem ent_or : ∀ args w, (callFunc 161 args).run Tryz.prog w = .ok (.enter 161 args) w := enters_of Tryz.func161 (by kernel_rfl) rfl
theorem ent_single : ∀ args w, (callFunc 177 args).run Tryz.prog w = .ok (.enter 177 args) w := enters_of Tryz.func177 (by kernel_rfl) rfl
theorem ent_slice : ∀ args w, (callFunc 170 args).run Tryz.prog w = .ok (.enter 170 args) w := enters_of Tryz.func170 (by kernel_rfl) rfl
theorem ent_sub : ∀ args w, (callFunc 158 args).run Tryz.prog w = .ok (.enter 158 args) w := enters_of Tryz.func158 (by kernel_rfl) rfl
theorem ent_together : ∀ args w, (callFunc 168 args).run Tryz.prog w = .ok (.enter 168 args) w := enters_of Tryz.func168 (by kernel_rfl) rfl
theorem ent_told_1 : ∀ args w, (callFunc 193 args).run Tryz.prog w = .ok (.enter 193 args) w := enters_of Tryz.func193 (by kernel_rfl) rfl
theorem ent_up : ∀ args w, (callFunc 166 args).run Tryz.prog w = .ok (.enter 166 args) w := enters_of Tryz.func166 (by kernel_rfl) rfl
theorem ent_xor : ∀ args w, (callFunc 162 args).run Tryz.prog w = .ok (.enter 162 args) w := enters_of Tryz.func162 (by kernel_rfl) rfl

theorem do5_yes (n1 n2 n m : Int) (u v : Nat) (w : World) (o1 : okN n1 u = true) (o2 : okN n2 v = true) (hf : (n1 == n2) = true) :
    Calls Tryz.prog 111 #[.int .u8 5, .agg #[.int .i64 n1, .int .u64 (wHi u), .int .u64 (wLo u)], .agg #[.int .i64 n2, .int .u64 (wHi v), .int .u64 (wLo v)], .int .i64 n, .int .i64 m] w fun e w' => e = .returned (.tuple #[.agg #[.int .i64 n1, .int .u64 (wHi ((u + v) % 2 ^ n1.toNat)), .int .u64 (wLo ((u + v) % 2 ^ n1.toNat))], .int .i64 0]) ∧ Below w.heap.size w w' := by
  obtain ⟨⟨b0, b1⟩, b2⟩ := okN_iff.1 o1
  obtain ⟨⟨c0, c1⟩, c2⟩ := okN_iff.1 o2
  refine do_pair 5 n1 n2 n m _ _ _ 0 156 u v (plainT 157) w S5 (okN_top o1) o1 ⟨(5, S5), by simp [tableL], rfl⟩ (by simp [tableL]) rfl ?_
  · intro W x1 x2 gv W0 h1 h2 hg hB
    have hgv : gv = .func (Fn.func 157) #[] #[] := hg
    subst hgv
    exact pair_yes 156 157 n1 n2 n m _ _ _ u v x1 x2 W (okN_top o2) o2 h1 h2 ent_alike ent_add (fun W => by have := alike_any n1 n2 W; rw [hf] at this; exact this) (fun W _ => addV n1 n2 u v W (okN_top o1) (okN_top o2) b0 b1)
theorem do5_wide (n1 n2 n m : Int) (u v : Nat) (w : World) (o1 : okN n1 u = true) (o2 : okN n2 v = true) (hf : (n1 == n2) = false) :
    Calls Tryz.prog 111 #[.int .u8 5, .agg #[.int .i64 n1, .int .u64 (wHi u), .int .u64 (wLo u)], .agg #[.int .i64 n2, .int .u64 (wHi v), .int .u64 (wLo v)], .int .i64 n, .int .i64 m] w fun e w' => e = .returned (.tuple #[.agg #[.int .i64 0, .int .u64 0, .int .u64 0], .int .i64 7]) ∧ Below w.heap.size w w' := by
  obtain ⟨⟨b0, b1⟩, b2⟩ := okN_iff.1 o1
  obtain ⟨⟨c0, c1⟩, c2⟩ := okN_iff.1 o2
  refine do_pair 5 n1 n2 n m 0 0 0 7 156 u v (plainT 157) w S5 (okN_top o1) o1 ⟨(5, S5), by simp [tableL], rfl⟩ (by simp [tableL]) rfl ?_
  intro W x1 x2 gv W0 h1 h2 hg hB
  exact pair_wide 156 n1 n2 n m u v x1 x2 W (okN_top o2) o2 h1 ent_alike (fun W => by have := alike_any n1 n2 W; rw [hf] at this; exact this)
theorem do5_bad2 (n1 n2 n m : Int) (u v : Nat) (w : World) (o1 : okN n1 u = true) (hv : v < top) (o2 : okN n2 v = false) :
    Calls Tryz.prog 111 #[.int .u8 5, .agg #[.int .i64 n1, .int .u64 (wHi u), .int .u64 (wLo u)], .agg #[.int .i64 n2, .int .u64 (wHi v), .int .u64 (wLo v)], .int .i64 n, .int .i64 m] w fun e w' => e = .returned (.tuple #[.agg #[.int .i64 0, .int .u64 0, .int .u64 0], .int .i64 1]) ∧ Below w.heap.size w w' := by
  refine do_pair 5 n1 n2 n m 0 0 0 1 156 u v (plainT 157) w S5 (okN_top o1) o1 ⟨(5, S5), by simp [tableL], rfl⟩ (by simp [tableL]) rfl ?_
  intro W x1 x2 gv W0 h1 h2 hg hB
  exact pair_bad n1 n2 n m u v x1 x2 W hv o2
theorem do6_yes (n1 n2 n m : Int) (u v : Nat) (w : World) (o1 : okN n1 u = true) (o2 : okN n2 v = true) (hf : (n1 == n2) = true) :
    Calls Tryz.prog 111 #[.int .u8 6, .agg #[.int .i64 n1, .int .u64 (wHi u), .int .u64 (wLo u)], .agg #[.int .i64 n2, .int .u64 (wHi v), .int .u64 (wLo v)], .int .i64 n, .int .i64 m] w fun e w' => e = .returned (.tuple #[.agg #[.int .i64 n1, .int .u64 (wHi ((u + top - v) % 2 ^ n1.toNat)), .int .u64 (wLo ((u + top - v) % 2 ^ n1.toNat))], .int .i64 0]) ∧ Below w.heap.size w w' := by
  obtain ⟨⟨b0, b1⟩, b2⟩ := okN_iff.1 o1
  obtain ⟨⟨c0, c1⟩, c2⟩ := okN_iff.1 o2
  refine do_pair 6 n1 n2 n m _ _ _ 0 156 u v (plainT 158) w S6 (okN_top o1) o1 ⟨(6, S6), by simp [tableL], rfl⟩ (by simp [tableL]) rfl ?_
  · intro W x1 x2 gv W0 h1 h2 hg hB
    have hgv : gv = .func (Fn.func 158) #[] #[] := hg
    subst hgv
    exact pair_yes 156 158 n1 n2 n m _ _ _ u v x1 x2 W (okN_top o2) o2 h1 h2 ent_alike ent_sub (fun W => by have := alike_any n1 n2 W; rw [hf] at this; exact this) (fun W _ => subV n1 n2 u v W (okN_top o1) (okN_top o2) b0 b1)
theorem do6_wide (n1 n2 n m : Int) (u v : Nat) (w : World) (o1 : okN n1 u = true) (o2 : okN n2 v = true) (hf : (n1 == n2) = false) :
    Calls Tryz.prog 111 #[.int .u8 6, .agg #[.int .i64 n1, .int .u64 (wHi u), .int .u64 (wLo u)], .agg #[.int .i64 n2, .int .u64 (wHi v), .int .u64 (wLo v)], .int .i64 n, .int .i64 m] w fun e w' => e = .returned (.tuple #[.agg #[.int .i64 0, .int .u64 0, .int .u64 0], .int .i64 7]) ∧ Below w.heap.size w w' := by
  obtain ⟨⟨b0, b1⟩, b2⟩ := okN_iff.1 o1
  obtain ⟨⟨c0, c1⟩, c2⟩ := okN_iff.1 o2
  refine do_pair 6 n1 n2 n m 0 0 0 7 156 u v (plainT 158) w S6 (okN_top o1) o1 ⟨(6, S6), by simp [tableL], rfl⟩ (by simp [tableL]) rfl ?_
  intro W x1 x2 gv W0 h1 h2 hg hB
  exact pair_wide 156 n1 n2 n m u v x1 x2 W (okN_top o2) o2 h1 ent_alike (fun W => by have := alike_any n1 n2 W; rw [hf] at this; exact this)
theorem do6_bad2 (n1 n2 n m : Int) (u v : Nat) (w : World) (o1 : okN n1 u = true) (hv : v < top) (o2 : okN n2 v = false) :
    Calls Tryz.prog 111 #[.int .u8 6, .agg #[.int .i64 n1, .int .u64 (wHi u), .int .u64 (wLo u)], .agg #[.int .i64 n2, .int .u64 (wHi v), .int .u64 (wLo v)], .int .i64 n, .int .i64 m] w fun e w' => e = .returned (.tuple #[.agg #[.int .i64 0, .int .u64 0, .int .u64 0], .int .i64 1]) ∧ Below w.heap.size w w' := by
  refine do_pair 6 n1 n2 n m 0 0 0 1 156 u v (plainT 158) w S6 (okN_top o1) o1 ⟨(6, S6), by simp [tableL], rfl⟩ (by simp [tableL]) rfl ?_
  intro W x1 x2 gv W0 h1 h2 hg hB
  exact pair_bad n1 n2 n m u v x1 x2 W hv o2
theorem do7_yes (n1 n2 n m : Int) (u v : Nat) (w : World) (o1 : okN n1 u = true) (o2 : okN n2 v = true) (hf : (n1 == n2) = true) :
    Calls Tryz.prog 111 #[.int .u8 7, .agg #[.int .i64 n1, .int .u64 (wHi u), .int .u64 (wLo u)], .agg #[.int .i64 n2, .int .u64 (wHi v), .int .u64 (wLo v)], .int .i64 n, .int .i64 m] w fun e w' => e = .returned (.tuple #[.agg #[.int .i64 n1, .int .u64 (wHi (u * v % 2 ^ n1.toNat)), .int .u64 (wLo (u * v % 2 ^ n1.toNat))], .int .i64 0]) ∧ Below w.heap.size w w' := by
  obtain ⟨⟨b0, b1⟩, b2⟩ := okN_iff.1 o1
  obtain ⟨⟨c0, c1⟩, c2⟩ := okN_iff.1 o2
  refine do_pair 7 n1 n2 n m _ _ _ 0 156 u v (plainT 159) w S7 (okN_top o1) o1 ⟨(7, S7), by simp [tableL], rfl⟩ (by simp [tableL]) rfl ?_
  · intro W x1 x2 gv W0 h1 h2 hg hB
    have hgv : gv = .func (Fn.func 159) #[] #[] := hg
    subst hgv
    exact pair_yes 156 159 n1 n2 n m _ _ _ u v x1 x2 W (okN_top o2) o2 h1 h2 ent_alike ent_mul (fun W => by have := alike_any n1 n2 W; rw [hf] at this; exact this) (fun W _ => mulV n1 n2 u v W b0 b1)
theorem do7_wide (n1 n2 n m : Int) (u v : Nat) (w : World) (o1 : okN n1 u = true) (o2 : okN n2 v = true) (hf : (n1 == n2) = false) :
    Calls Tryz.prog 111 #[.int .u8 7, .agg #[.int .i64 n1, .int .u64 (wHi u), .int .u64 (wLo u)], .agg #[.int .i64 n2, .int .u64 (wHi v), .int .u64 (wLo v)], .int .i64 n, .int .i64 m] w fun e w' => e = .returned (.tuple #[.agg #[.int .i64 0, .int .u64 0, .int .u64 0], .int .i64 7]) ∧ Below w.heap.size w w' := by
  obtain ⟨⟨b0, b1⟩, b2⟩ := okN_iff.1 o1
  obtain ⟨⟨c0, c1⟩, c2⟩ := okN_iff.1 o2
  refine do_pair 7 n1 n2 n m 0 0 0 7 156 u v (plainT 159) w S7 (okN_top o1) o1 ⟨(7, S7), by simp [tableL], rfl⟩ (by simp [tableL]) rfl ?_
  intro W x1 x2 gv W0 h1 h2 hg hB
  exact pair_wide 156 n1 n2 n m u v x1 x2 W (okN_top o2) o2 h1 ent_alike (fun W => by have := alike_any n1 n2 W; rw [hf] at this; exact this)
theorem do7_bad2 (n1 n2 n m : Int) (u v : Nat) (w : World) (o1 : okN n1 u = true) (hv : v < top) (o2 : okN n2 v = false) :
    Calls Tryz.prog 111 #[.int .u8 7, .agg #[.int .i64 n1, .int .u64 (wHi u), .int .u64 (wLo u)], .agg #[.int .i64 n2, .int .u64 (wHi v), .int .u64 (wLo v)], .int .i64 n, .int .i64 m] w fun e w' => e = .returned (.tuple #[.agg #[.int .i64 0, .int .u64 0, .int .u64 0], .int .i64 1]) ∧ Below w.heap.size w w' := by
  refine do_pair 7 n1 n2 n m 0 0 0 1 156 u v (plainT 159) w S7 (okN_top o1) o1 ⟨(7, S7), by simp [tableL], rfl⟩ (by simp [tableL]) rfl ?_
  intro W x1 x2 gv W0 h1 h2 hg hB
  exact pair_bad n1 n2 n m u v x1 x2 W hv o2
theorem do8_yes (n1 n2 n m : Int) (u v : Nat) (w : World) (o1 : okN n1 u = true) (o2 : okN n2 v = true) (hf : (n1 == n2) = true) :
    Calls Tryz.prog 111 #[.int .u8 8, .agg #[.int .i64 n1, .int .u64 (wHi u), .int .u64 (wLo u)], .agg #[.int .i64 n2, .int .u64 (wHi v), .int .u64 (wLo v)], .int .i64 n, .int .i64 m] w fun e w' => e = .returned (.tuple #[.agg #[.int .i64 n1, .int .u64 (wHi (u &&& v)), .int .u64 (wLo (u &&& v))], .int .i64 0]) ∧ Below w.heap.size w w' := by
  obtain ⟨⟨b0, b1⟩, b2⟩ := okN_iff.1 o1
  obtain ⟨⟨c0, c1⟩, c2⟩ := okN_iff.1 o2
  refine do_pair 8 n1 n2 n m _ _ _ 0 156 u v (plainT 160) w S8 (okN_top o1) o1 ⟨(8, S8), by simp [tableL], rfl⟩ (by simp [tableL]) rfl ?_
  · intro W x1 x2 gv W0 h1 h2 hg hB
    have hgv : gv = .func (Fn.func 160) #[] #[] := hg
    subst hgv
    exact pair_yes 156 160 n1 n2 n m _ _ _ u v x1 x2 W (okN_top o2) o2 h1 h2 ent_alike ent_and (fun W => by have := alike_any n1 n2 W; rw [hf] at this; exact this) (fun W _ => andV n1 n2 u v W (okN_top o1) (okN_top o2))
theorem do8_wide (n1 n2 n m : Int) (u v : Nat) (w : World) (o1 : okN n1 u = true) (o2 : okN n2 v = true) (hf : (n1 == n2) = false) :
    Calls Tryz.prog 111 #[.int .u8 8, .agg #[.int .i64 n1, .int .u64 (wHi u), .int .u64 (wLo u)], .agg #[.int .i64 n2, .int .u64 (wHi v), .int .u64 (wLo v)], .int .i64 n, .int .i64 m] w fun e w' => e = .returned (.tuple #[.agg #[.int .i64 0, .int .u64 0, .int .u64 0], .int .i64 7]) ∧ Below w.heap.size w w' := by
  obtain ⟨⟨b0, b1⟩, b2⟩ := okN_iff.1 o1
  obtain ⟨⟨c0, c1⟩, c2⟩ := okN_iff.1 o2
  refine do_pair 8 n1 n2 n m 0 0 0 7 156 u v (plainT 160) w S8 (okN_top o1) o1 ⟨(8, S8), by simp [tableL], rfl⟩ (by simp [tableL]) rfl ?_
  intro W x1 x2 gv W0 h1 h2 hg hB
  exact pair_wide 156 n1 n2 n m u v x1 x2 W (okN_top o2) o2 h1 ent_alike (fun W => by have := alike_any n1 n2 W; rw [hf] at this; exact this)
theorem do8_bad2 (n1 n2 n m : Int) (u v : Nat) (w : World) (o1 : okN n1 u = true) (hv : v < top) (o2 : okN n2 v = false) :
    Calls Tryz.prog 111 #[.int .u8 8, .agg #[.int .i64 n1, .int .u64 (wHi u), .int .u64 (wLo u)], .agg #[.int .i64 n2, .int .u64 (wHi v), .int .u64 (wLo v)], .int .i64 n, .int .i64 m] w fun e w' => e = .returned (.tuple #[.agg #[.int .i64 0, .int .u64 0, .int .u64 0], .int .i64 1]) ∧ Below w.heap.size w w' := by
  refine do_pair 8 n1 n2 n m 0 0 0 1 156 u v (plainT 160) w S8 (okN_top o1) o1 ⟨(8, S8), by simp [tableL], rfl⟩ (by simp [tableL]) rfl ?_
  intro W x1 x2 gv W0 h1 h2 hg hB
  exact pair_bad n1 n2 n m u v x1 x2 W hv o2
theorem do9_yes (n1 n2 n m : Int) (u v : Nat) (w : World) (o1 : okN n1 u = true) (o2 : okN n2 v = true) (hf : (n1 == n2) = true) :
    Calls Tryz.prog 111 #[.int .u8 9, .agg #[.int .i64 n1, .int .u64 (wHi u), .int .u64 (wLo u)], .agg #[.int .i64 n2, .int .u64 (wHi v), .int .u64 (wLo v)], .int .i64 n, .int .i64 m] w fun e w' => e = .returned (.tuple #[.agg #[.int .i64 n1, .int .u64 (wHi (u ||| v)), .int .u64 (wLo (u ||| v))], .int .i64 0]) ∧ Below w.heap.size w w' := by
  obtain ⟨⟨b0, b1⟩, b2⟩ := okN_iff.1 o1
  obtain ⟨⟨c0, c1⟩, c2⟩ := okN_iff.1 o2
  refine do_pair 9 n1 n2 n m _ _ _ 0 156 u v (plainT 161) w S9 (okN_top o1) o1 ⟨(9, S9), by simp [tableL], rfl⟩ (by simp [tableL]) rfl ?_
  · intro W x1 x2 gv W0 h1 h2 hg hB
    have hgv : gv = .func (Fn.func 161) #[] #[] := hg
    subst hgv
    exact pair_yes 156 161 n1 n2 n m _ _ _ u v x1 x2 W (okN_top o2) o2 h1 h2 ent_alike ent_or (fun W => by have := alike_any n1 n2 W; rw [hf] at this; exact this) (fun W _ => orV n1 n2 u v W (okN_top o1) (okN_top o2))
theorem do9_wide (n1 n2 n m : Int) (u v : Nat) (w : World) (o1 : okN n1 u = true) (o2 : okN n2 v = true) (hf : (n1 == n2) = false) :
    Calls Tryz.prog 111 #[.int .u8 9, .agg #[.int .i64 n1, .int .u64 (wHi u), .int .u64 (wLo u)], .agg #[.int .i64 n2, .int .u64 (wHi v), .int .u64 (wLo v)], .int .i64 n, .int .i64 m] w fun e w' => e = .returned (.tuple #[.agg #[.int .i64 0, .int .u64 0, .int .u64 0], .int .i64 7]) ∧ Below w.heap.size w w' := by
  obtain ⟨⟨b0, b1⟩, b2⟩ := okN_iff.1 o1
  obtain ⟨⟨c0, c1⟩, c2⟩ := okN_iff.1 o2
  refine do_pair 9 n1 n2 n m 0 0 0 7 156 u v (plainT 161) w S9 (okN_top o1) o1 ⟨(9, S9), by simp [tableL], rfl⟩ (by simp [tableL]) rfl ?_
  intro W x1 x2 gv W0 h1 h2 hg hB
  exact pair_wide 156 n1 n2 n m u v x1 x2 W (okN_top o2) o2 h1 ent_alike (fun W => by have := alike_any n1 n2 W; rw [hf] at this; exact this)
theorem do9_bad2 (n1 n2 n m : Int) (u v : Nat) (w : World) (o1 : okN n1 u = true) (hv : v < top) (o2 : okN n2 v = false) :
    Calls Tryz.prog 111 #[.int .u8 9, .agg #[.int .i64 n1, .int .u64 (wHi u), .int .u64 (wLo u)], .agg #[.int .i64 n2, .int .u64 (wHi v), .int .u64 (wLo v)], .int .i64 n, .int .i64 m] w fun e w' => e = .returned (.tuple #[.agg #[.int .i64 0, .int .u64 0, .int .u64 0], .int .i64 1]) ∧ Below w.heap.size w w' := by
  refine do_pair 9 n1 n2 n m 0 0 0 1 156 u v (plainT 161) w S9 (okN_top o1) o1 ⟨(9, S9), by simp [tableL], rfl⟩ (by simp [tableL]) rfl ?_
  intro W x1 x2 gv W0 h1 h2 hg hB
  exact pair_bad n1 n2 n m u v x1 x2 W hv o2
theorem do10_yes (n1 n2 n m : Int) (u v : Nat) (w : World) (o1 : okN n1 u = true) (o2 : okN n2 v = true) (hf : (n1 == n2) = true) :
    Calls Tryz.prog 111 #[.int .u8 10, .agg #[.int .i64 n1, .int .u64 (wHi u), .int .u64 (wLo u)], .agg #[.int .i64 n2, .int .u64 (wHi v), .int .u64 (wLo v)], .int .i64 n, .int .i64 m] w fun e w' => e = .returned (.tuple #[.agg #[.int .i64 n1, .int .u64 (wHi (u ^^^ v)), .int .u64 (wLo (u ^^^ v))], .int .i64 0]) ∧ Below w.heap.size w w' := by
  obtain ⟨⟨b0, b1⟩, b2⟩ := okN_iff.1 o1
  obtain ⟨⟨c0, c1⟩, c2⟩ := okN_iff.1 o2
  refine do_pair 10 n1 n2 n m _ _ _ 0 156 u v (plainT 162) w S10 (okN_top o1) o1 ⟨(10, S10), by simp [tableL], rfl⟩ (by simp [tableL]) rfl ?_
  · intro W x1 x2 gv W0 h1 h2 hg hB
    have hgv : gv = .func (Fn.func 162) #[] #[] := hg
    subst hgv
    exact pair_yes 156 162 n1 n2 n m _ _ _ u v x1 x2 W (okN_top o2) o2 h1 h2 ent_alike ent_xor (fun W => by have := alike_any n1 n2 W; rw [hf] at this; exact this) (fun W _ => xorV n1 n2 u v W (okN_top o1) (okN_top o2))
theorem do10_wide (n1 n2 n m : Int) (u v : Nat) (w : World) (o1 : okN n1 u = true) (o2 : okN n2 v = true) (hf : (n1 == n2) = false) :
    Calls Tryz.prog 111 #[.int .u8 10, .agg #[.int .i64 n1, .int .u64 (wHi u), .int .u64 (wLo u)], .agg #[.int .i64 n2, .int .u64 (wHi v), .int .u64 (wLo v)], .int .i64 n, .int .i64 m] w fun e w' => e = .returned (.tuple #[.agg #[.int .i64 0, .int .u64 0, .int .u64 0], .int .i64 7]) ∧ Below w.heap.size w w' := by
  obtain ⟨⟨b0, b1⟩, b2⟩ := okN_iff.1 o1
  obtain ⟨⟨c0, c1⟩, c2⟩ := okN_iff.1 o2
  refine do_pair 10 n1 n2 n m 0 0 0 7 156 u v (plainT 162) w S10 (okN_top o1) o1 ⟨(10, S10), by simp [tableL], rfl⟩ (by simp [tableL]) rfl ?_
  intro W x1 x2 gv W0 h1 h2 hg hB
  exact pair_wide 156 n1 n2 n m u v x1 x2 W (okN_top o2) o2 h1 ent_alike (fun W => by have := alike_any n1 n2 W; rw [hf] at this; exact this)
theorem do10_bad2 (n1 n2 n m : Int) (u v : Nat) (w : World) (o1 : okN n1 u = true) (hv : v < top) (o2 : okN n2 v = false) :
    Calls Tryz.prog 111 #[.int .u8 10, .agg #[.int .i64 n1, .int .u64 (wHi u), .int .u64 (wLo u)], .agg #[.int .i64 n2, .int .u64 (wHi v), .int .u64 (wLo v)], .int .i64 n, .int .i64 m] w fun e w' => e = .returned (.tuple #[.agg #[.int .i64 0, .int .u64 0, .int .u64 0], .int .i64 1]) ∧ Below w.heap.size w w' := by
  refine do_pair 10 n1 n2 n m 0 0 0 1 156 u v (plainT 162) w S10 (okN_top o1) o1 ⟨(10, S10), by simp [tableL], rfl⟩ (by simp [tableL]) rfl ?_
  intro W x1 x2 gv W0 h1 h2 hg hB
  exact pair_bad n1 n2 n m u v x1 x2 W hv o2
theorem do12_yes (n1 n2 n m : Int) (u v : Nat) (w : World) (o1 : okN n1 u = true) (o2 : okN n2 v = true) :
    Calls Tryz.prog 111 #[.int .u8 12, .agg #[.int .i64 n1, .int .u64 (wHi u), .int .u64 (wLo u)], .agg #[.int .i64 n2, .int .u64 (wHi v), .int .u64 (wLo v)], .int .i64 n, .int .i64 m] w fun e w' => e = .returned (.tuple #[.agg #[.int .i64 n1, .int .u64 (wHi (u * 2 ^ v % 2 ^ n1.toNat)), .int .u64 (wLo (u * 2 ^ v % 2 ^ n1.toNat))], .int .i64 0]) ∧ Below w.heap.size w w' := by
  obtain ⟨⟨b0, b1⟩, b2⟩ := okN_iff.1 o1
  obtain ⟨⟨c0, c1⟩, c2⟩ := okN_iff.1 o2
  refine do_pair 12 n1 n2 n m _ _ _ 0 164 u v (movedT 166) w S12 (okN_top o1) o1 ⟨(12, S12), by simp [tableL], rfl⟩ (by simp [tableL]) rfl ?_
  · intro W x1 x2 gv W0 h1 h2 hg hB
    obtain ⟨c, hgv, hcc⟩ := hg
    subst hgv
    exact pair_yes1 164 191 (.pointer (some ⟨c, 0, none⟩)) n1 n2 n m _ _ _ u v x1 x2 W (okN_top o2) o2 h1 h2 ent_anyWidths ent_moved_1 (fun W => by have := anyWidths_any n1 n2 W;  exact this)
      (fun W' hB' => moved_up n1 n2 u v c W' (okN_top o1) b0 b1 (cell_of_one ((hB'.block c (Nat.lt_of_lt_of_le (lt_of_block hcc) hB.size)).trans ((hB.block c (lt_of_block hcc)).trans hcc))))
theorem do12_bad2 (n1 n2 n m : Int) (u v : Nat) (w : World) (o1 : okN n1 u = true) (hv : v < top) (o2 : okN n2 v = false) :
    Calls Tryz.prog 111 #[.int .u8 12, .agg #[.int .i64 n1, .int .u64 (wHi u), .int .u64 (wLo u)], .agg #[.int .i64 n2, .int .u64 (wHi v), .int .u64 (wLo v)], .int .i64 n, .int .i64 m] w fun e w' => e = .returned (.tuple #[.agg #[.int .i64 0, .int .u64 0, .int .u64 0], .int .i64 1]) ∧ Below w.heap.size w w' := by
  refine do_pair 12 n1 n2 n m 0 0 0 1 164 u v (movedT 166) w S12 (okN_top o1) o1 ⟨(12, S12), by simp [tableL], rfl⟩ (by simp [tableL]) rfl ?_
  intro W x1 x2 gv W0 h1 h2 hg hB
  exact pair_bad n1 n2 n m u v x1 x2 W hv o2
theorem do13_yes (n1 n2 n m : Int) (u v : Nat) (w : World) (o1 : okN n1 u = true) (o2 : okN n2 v = true) :
    Calls Tryz.prog 111 #[.int .u8 13, .agg #[.int .i64 n1, .int .u64 (wHi u), .int .u64 (wLo u)], .agg #[.int .i64 n2, .int .u64 (wHi v), .int .u64 (wLo v)], .int .i64 n, .int .i64 m] w fun e w' => e = .returned (.tuple #[.agg #[.int .i64 n1, .int .u64 (wHi (u / 2 ^ v % 2 ^ n1.toNat)), .int .u64 (wLo (u / 2 ^ v % 2 ^ n1.toNat))], .int .i64 0]) ∧ Below w.heap.size w w' := by
  obtain ⟨⟨b0, b1⟩, b2⟩ := okN_iff.1 o1
  obtain ⟨⟨c0, c1⟩, c2⟩ := okN_iff.1 o2
  refine do_pair 13 n1 n2 n m _ _ _ 0 164 u v (movedT 167) w S13 (okN_top o1) o1 ⟨(13, S13), by simp [tableL], rfl⟩ (by simp [tableL]) rfl ?_
  · intro W x1 x2 gv W0 h1 h2 hg hB
    obtain ⟨c, hgv, hcc⟩ := hg
    subst hgv
    exact pair_yes1 164 191 (.pointer (some ⟨c, 0, none⟩)) n1 n2 n m _ _ _ u v x1 x2 W (okN_top o2) o2 h1 h2 ent_anyWidths ent_moved_1 (fun W => by have := anyWidths_any n1 n2 W;  exact this)
      (fun W' hB' => moved_down n1 n2 u v c W' (okN_top o1) b0 b1 (cell_of_one ((hB'.block c (Nat.lt_of_lt_of_le (lt_of_block hcc) hB.size)).trans ((hB.block c (lt_of_block hcc)).trans hcc))))
theorem do13_bad2 (n1 n2 n m : Int) (u v : Nat) (w : World) (o1 : okN n1 u = true) (hv : v < top) (o2 : okN n2 v = false) :
    Calls Tryz.prog 111 #[.int .u8 13, .agg #[.int .i64 n1, .int .u64 (wHi u), .int .u64 (wLo u)], .agg #[.int .i64 n2, .int .u64 (wHi v), .int .u64 (wLo v)], .int .i64 n, .int .i64 m] w fun e w' => e = .returned (.tuple #[.agg #[.int .i64 0, .int .u64 0, .int .u64 0], .int .i64 1]) ∧ Below w.heap.size w w' := by
  refine do_pair 13 n1 n2 n m 0 0 0 1 164 u v (movedT 167) w S13 (okN_top o1) o1 ⟨(13, S13), by simp [tableL], rfl⟩ (by simp [tableL]) rfl ?_
  intro W x1 x2 gv W0 h1 h2 hg hB
  exact pair_bad n1 n2 n m u v x1 x2 W hv o2
theorem do14_yes (n1 n2 n m : Int) (u v : Nat) (w : World) (o1 : okN n1 u = true) (o2 : okN n2 v = true) (hf : decide (n1 + n2 ≤ 128) = true) :
    Calls Tryz.prog 111 #[.int .u8 14, .agg #[.int .i64 n1, .int .u64 (wHi u), .int .u64 (wLo u)], .agg #[.int .i64 n2, .int .u64 (wHi v), .int .u64 (wLo v)], .int .i64 n, .int .i64 m] w fun e w' => e = .returned (.tuple #[.agg #[.int .i64 (n1 + n2), .int .u64 (wHi (u * 2 ^ n2.toNat + v)), .int .u64 (wLo (u * 2 ^ n2.toNat + v))], .int .i64 0]) ∧ Below w.heap.size w w' := by
  obtain ⟨⟨b0, b1⟩, b2⟩ := okN_iff.1 o1
  obtain ⟨⟨c0, c1⟩, c2⟩ := okN_iff.1 o2
  refine do_pair 14 n1 n2 n m _ _ _ 0 168 u v (plainT 169) w S14 (okN_top o1) o1 ⟨(14, S14), by simp [tableL], rfl⟩ (by simp [tableL]) rfl ?_
  · intro W x1 x2 gv W0 h1 h2 hg hB
    have hgv : gv = .func (Fn.func 169) #[] #[] := hg
    subst hgv
    exact pair_yes 168 169 n1 n2 n m _ _ _ u v x1 x2 W (okN_top o2) o2 h1 h2 ent_together ent_cat (fun W => by have := together_any n1 n2 W (by omega) (by omega) (by omega) (by omega); rw [hf] at this; exact this) (fun W _ => catV n1 n2 u v W (okN_top o1) (okN_top o2) b0 c0 (by simpa using hf) b2 c2)
theorem do14_wide (n1 n2 n m : Int) (u v : Nat) (w : World) (o1 : okN n1 u = true) (o2 : okN n2 v = true) (hf : decide (n1 + n2 ≤ 128) = false) :
    Calls Tryz.prog 111 #[.int .u8 14, .agg #[.int .i64 n1, .int .u64 (wHi u), .int .u64 (wLo u)], .agg #[.int .i64 n2, .int .u64 (wHi v), .int .u64 (wLo v)], .int .i64 n, .int .i64 m] w fun e w' => e = .returned (.tuple #[.agg #[.int .i64 0, .int .u64 0, .int .u64 0], .int .i64 7]) ∧ Below w.heap.size w w' := by
  obtain ⟨⟨b0, b1⟩, b2⟩ := okN_iff.1 o1
  obtain ⟨⟨c0, c1⟩, c2⟩ := okN_iff.1 o2
  refine do_pair 14 n1 n2 n m 0 0 0 7 168 u v (plainT 169) w S14 (okN_top o1) o1 ⟨(14, S14), by simp [tableL], rfl⟩ (by simp [tableL]) rfl ?_
  intro W x1 x2 gv W0 h1 h2 hg hB
  exact pair_wide 168 n1 n2 n m u v x1 x2 W (okN_top o2) o2 h1 ent_together (fun W => by have := together_any n1 n2 W (by omega) (by omega) (by omega) (by omega); rw [hf] at this; exact this)
theorem do14_bad2 (n1 n2 n m : Int) (u v : Nat) (w : World) (o1 : okN n1 u = true) (hv : v < top) (o2 : okN n2 v = false) :
    Calls Tryz.prog 111 #[.int .u8 14, .agg #[.int .i64 n1, .int .u64 (wHi u), .int .u64 (wLo u)], .agg #[.int .i64 n2, .int .u64 (wHi v), .int .u64 (wLo v)], .int .i64 n, .int .i64 m] w fun e w' => e = .returned (.tuple #[.agg #[.int .i64 0, .int .u64 0, .int .u64 0], .int .i64 1]) ∧ Below w.heap.size w w' := by
  refine do_pair 14 n1 n2 n m 0 0 0 1 168 u v (plainT 169) w S14 (okN_top o1) o1 ⟨(14, S14), by simp [tableL], rfl⟩ (by simp [tableL]) rfl ?_
  intro W x1 x2 gv W0 h1 h2 hg hB
  exact pair_bad n1 n2 n m u v x1 x2 W hv o2
theorem do17_yes (n1 n2 n m : Int) (u v : Nat) (w : World) (o1 : okN n1 u = true) (o2 : okN n2 v = true) (hf : (n1 == n2) = true) :
    Calls Tryz.prog 111 #[.int .u8 17, .agg #[.int .i64 n1, .int .u64 (wHi u), .int .u64 (wLo u)], .agg #[.int .i64 n2, .int .u64 (wHi v), .int .u64 (wLo v)], .int .i64 n, .int .i64 m] w fun e w' => e = .returned (.tuple #[.agg #[.int .i64 1, .int .u64 (wHi (decide (u = v)).toNat), .int .u64 (wLo (decide (u = v)).toNat)], .int .i64 0]) ∧ Below w.heap.size w w' := by
  obtain ⟨⟨b0, b1⟩, b2⟩ := okN_iff.1 o1
  obtain ⟨⟨c0, c1⟩, c2⟩ := okN_iff.1 o2
  refine do_pair 17 n1 n2 n m _ _ _ 0 156 u v (toldT 173) w S17 (okN_top o1) o1 ⟨(17, S17), by simp [tableL], rfl⟩ (by simp [tableL]) rfl ?_
  · intro W x1 x2 gv W0 h1 h2 hg hB
    have en : n1 = n2 := by simpa using hf
    obtain ⟨c, hgv, hcc⟩ := hg
    subst hgv
    rw [(wBool _).1, (wBool _).2]
    subst en
    exact pair_yes1 156 193 (.pointer (some ⟨c, 0, none⟩)) n1 n1 n m _ _ _ u v x1 x2 W (okN_top o2) o2 h1 h2 ent_alike ent_told_1 (fun W => by have := alike_any n1 n1 W; rw [hf] at this; exact this)
      (fun W' hB' => told_val 173 _ _ _ c n1 (wHi u) (wLo u) n1 (wHi v) (wLo v) W' rfl rfl (cell_of_one ((hB'.block c (Nat.lt_of_lt_of_le (lt_of_block hcc) hB.size)).trans ((hB.block c (lt_of_block hcc)).trans hcc))) ent_operations_1 (fun W'' => eqQ n1 u v W''))
theorem do17_wide (n1 n2 n m : Int) (u v : Nat) (w : World) (o1 : okN n1 u = true) (o2 : okN n2 v = true) (hf : (n1 == n2) = false) :
    Calls Tryz.prog 111 #[.int .u8 17, .agg #[.int .i64 n1, .int .u64 (wHi u), .int .u64 (wLo u)], .agg #[.int .i64 n2, .int .u64 (wHi v), .int .u64 (wLo v)], .int .i64 n, .int .i64 m] w fun e w' => e = .returned (.tuple #[.agg #[.int .i64 0, .int .u64 0, .int .u64 0], .int .i64 7]) ∧ Below w.heap.size w w' := by
  obtain ⟨⟨b0, b1⟩, b2⟩ := okN_iff.1 o1
  obtain ⟨⟨c0, c1⟩, c2⟩ := okN_iff.1 o2
  refine do_pair 17 n1 n2 n m 0 0 0 7 156 u v (toldT 173) w S17 (okN_top o1) o1 ⟨(17, S17), by simp [tableL], rfl⟩ (by simp [tableL]) rfl ?_
  intro W x1 x2 gv W0 h1 h2 hg hB
  exact pair_wide 156 n1 n2 n m u v x1 x2 W (okN_top o2) o2 h1 ent_alike (fun W => by have := alike_any n1 n2 W; rw [hf] at this; exact this)
theorem do17_bad2 (n1 n2 n m : Int) (u v : Nat) (w : World) (o1 : okN n1 u = true) (hv : v < top) (o2 : okN n2 v = false) :
    Calls Tryz.prog 111 #[.int .u8 17, .agg #[.int .i64 n1, .int .u64 (wHi u), .int .u64 (wLo u)], .agg #[.int .i64 n2, .int .u64 (wHi v), .int .u64 (wLo v)], .int .i64 n, .int .i64 m] w fun e w' => e = .returned (.tuple #[.agg #[.int .i64 0, .int .u64 0, .int .u64 0], .int .i64 1]) ∧ Below w.heap.size w w' := by
  refine do_pair 17 n1 n2 n m 0 0 0 1 156 u v (toldT 173) w S17 (okN_top o1) o1 ⟨(17, S17), by simp [tableL], rfl⟩ (by simp [tableL]) rfl ?_
  intro W x1 x2 gv W0 h1 h2 hg hB
  exact pair_bad n1 n2 n m u v x1 x2 W hv o2
theorem do18_yes (n1 n2 n m : Int) (u v : Nat) (w : World) (o1 : okN n1 u = true) (o2 : okN n2 v = true) (hf : (n1 == n2) = true) :
    Calls Tryz.prog 111 #[.int .u8 18, .agg #[.int .i64 n1, .int .u64 (wHi u), .int .u64 (wLo u)], .agg #[.int .i64 n2, .int .u64 (wHi v), .int .u64 (wLo v)], .int .i64 n, .int .i64 m] w fun e w' => e = .returned (.tuple #[.agg #[.int .i64 1, .int .u64 (wHi (!decide (u = v)).toNat), .int .u64 (wLo (!decide (u = v)).toNat)], .int .i64 0]) ∧ Below w.heap.size w w' := by
  obtain ⟨⟨b0, b1⟩, b2⟩ := okN_iff.1 o1
  obtain ⟨⟨c0, c1⟩, c2⟩ := okN_iff.1 o2
  refine do_pair 18 n1 n2 n m _ _ _ 0 156 u v (toldT 174) w S18 (okN_top o1) o1 ⟨(18, S18), by simp [tableL], rfl⟩ (by simp [tableL]) rfl ?_
  · intro W x1 x2 gv W0 h1 h2 hg hB
    have en : n1 = n2 := by simpa using hf
    obtain ⟨c, hgv, hcc⟩ := hg
    subst hgv
    rw [(wBool _).1, (wBool _).2]
    subst en
    exact pair_yes1 156 193 (.pointer (some ⟨c, 0, none⟩)) n1 n1 n m _ _ _ u v x1 x2 W (okN_top o2) o2 h1 h2 ent_alike ent_told_1 (fun W => by have := alike_any n1 n1 W; rw [hf] at this; exact this)
      (fun W' hB' => told_val 174 _ _ _ c n1 (wHi u) (wLo u) n1 (wHi v) (wLo v) W' rfl rfl (cell_of_one ((hB'.block c (Nat.lt_of_lt_of_le (lt_of_block hcc) hB.size)).trans ((hB.block c (lt_of_block hcc)).trans hcc))) ent_operations_2 (fun W'' => neQ n1 u v W''))
theorem do18_wide (n1 n2 n m : Int) (u v : Nat) (w : World) (o1 : okN n1 u = true) (o2 : okN n2 v = true) (hf : (n1 == n2) = false) :
    Calls Tryz.prog 111 #[.int .u8 18, .agg #[.int .i64 n1, .int .u64 (wHi u), .int .u64 (wLo u)], .agg #[.int .i64 n2, .int .u64 (wHi v), .int .u64 (wLo v)], .int .i64 n, .int .i64 m] w fun e w' => e = .returned (.tuple #[.agg #[.int .i64 0, .int .u64 0, .int .u64 0], .int .i64 7]) ∧ Below w.heap.size w w' := by
  obtain ⟨⟨b0, b1⟩, b2⟩ := okN_iff.1 o1
  obtain ⟨⟨c0, c1⟩, c2⟩ := okN_iff.1 o2
  refine do_pair 18 n1 n2 n m 0 0 0 7 156 u v (toldT 174) w S18 (okN_top o1) o1 ⟨(18, S18), by simp [tableL], rfl⟩ (by simp [tableL]) rfl ?_
  intro W x1 x2 gv W0 h1 h2 hg hB
  exact pair_wide 156 n1 n2 n m u v x1 x2 W (okN_top o2) o2 h1 ent_alike (fun W => by have := alike_any n1 n2 W; rw [hf] at this; exact this)
theorem do18_bad2 (n1 n2 n m : Int) (u v : Nat) (w : World) (o1 : okN n1 u = true) (hv : v < top) (o2 : okN n2 v = false) :
    Calls Tryz.prog 111 #[.int .u8 18, .agg #[.int .i64 n1, .int .u64 (wHi u), .int .u64 (wLo u)], .agg #[.int .i64 n2, .int .u64 (wHi v), .int .u64 (wLo v)], .int .i64 n, .int .i64 m] w fun e w' => e = .returned (.tuple #[.agg #[.int .i64 0, .int .u64 0, .int .u64 0], .int .i64 1]) ∧ Below w.heap.size w w' := by
  refine do_pair 18 n1 n2 n m 0 0 0 1 156 u v (toldT 174) w S18 (okN_top o1) o1 ⟨(18, S18), by simp [tableL], rfl⟩ (by simp [tableL]) rfl ?_
  intro W x1 x2 gv W0 h1 h2 hg hB
  exact pair_bad n1 n2 n m u v x1 x2 W hv o2
theorem do19_yes (n1 n2 n m : Int) (u v : Nat) (w : World) (o1 : okN n1 u = true) (o2 : okN n2 v = true) (hf : (n1 == n2) = true) :
    Calls Tryz.prog 111 #[.int .u8 19, .agg #[.int .i64 n1, .int .u64 (wHi u), .int .u64 (wLo u)], .agg #[.int .i64 n2, .int .u64 (wHi v), .int .u64 (wLo v)], .int .i64 n, .int .i64 m] w fun e w' => e = .returned (.tuple #[.agg #[.int .i64 1, .int .u64 (wHi (decide (u < v)).toNat), .int .u64 (wLo (decide (u < v)).toNat)], .int .i64 0]) ∧ Below w.heap.size w w' := by
  obtain ⟨⟨b0, b1⟩, b2⟩ := okN_iff.1 o1
  obtain ⟨⟨c0, c1⟩, c2⟩ := okN_iff.1 o2
  refine do_pair 19 n1 n2 n m _ _ _ 0 156 u v (toldT 175) w S19 (okN_top o1) o1 ⟨(19, S19), by simp [tableL], rfl⟩ (by simp [tableL]) rfl ?_
  · intro W x1 x2 gv W0 h1 h2 hg hB
    have en : n1 = n2 := by simpa using hf
    obtain ⟨c, hgv, hcc⟩ := hg
    subst hgv
    rw [(wBool _).1, (wBool _).2]
    subst en
    exact pair_yes1 156 193 (.pointer (some ⟨c, 0, none⟩)) n1 n1 n m _ _ _ u v x1 x2 W (okN_top o2) o2 h1 h2 ent_alike ent_told_1 (fun W => by have := alike_any n1 n1 W; rw [hf] at this; exact this)
      (fun W' hB' => told_val 175 _ _ _ c n1 (wHi u) (wLo u) n1 (wHi v) (wLo v) W' rfl rfl (cell_of_one ((hB'.block c (Nat.lt_of_lt_of_le (lt_of_block hcc) hB.size)).trans ((hB.block c (lt_of_block hcc)).trans hcc))) ent_below (fun W'' => ltQ n1 n1 u v W''))
theorem do19_wide (n1 n2 n m : Int) (u v : Nat) (w : World) (o1 : okN n1 u = true) (o2 : okN n2 v = true) (hf : (n1 == n2) = false) :
    Calls Tryz.prog 111 #[.int .u8 19, .agg #[.int .i64 n1, .int .u64 (wHi u), .int .u64 (wLo u)], .agg #[.int .i64 n2, .int .u64 (wHi v), .int .u64 (wLo v)], .int .i64 n, .int .i64 m] w fun e w' => e = .returned (.tuple #[.agg #[.int .i64 0, .int .u64 0, .int .u64 0], .int .i64 7]) ∧ Below w.heap.size w w' := by
  obtain ⟨⟨b0, b1⟩, b2⟩ := okN_iff.1 o1
  obtain ⟨⟨c0, c1⟩, c2⟩ := okN_iff.1 o2
  refine do_pair 19 n1 n2 n m 0 0 0 7 156 u v (toldT 175) w S19 (okN_top o1) o1 ⟨(19, S19), by simp [tableL], rfl⟩ (by simp [tableL]) rfl ?_
  intro W x1 x2 gv W0 h1 h2 hg hB
  exact pair_wide 156 n1 n2 n m u v x1 x2 W (okN_top o2) o2 h1 ent_alike (fun W => by have := alike_any n1 n2 W; rw [hf] at this; exact this)
theorem do19_bad2 (n1 n2 n m : Int) (u v : Nat) (w : World) (o1 : okN n1 u = true) (hv : v < top) (o2 : okN n2 v = false) :
    Calls Tryz.prog 111 #[.int .u8 19, .agg #[.int .i64 n1, .int .u64 (wHi u), .int .u64 (wLo u)], .agg #[.int .i64 n2, .int .u64 (wHi v), .int .u64 (wLo v)], .int .i64 n, .int .i64 m] w fun e w' => e = .returned (.tuple #[.agg #[.int .i64 0, .int .u64 0, .int .u64 0], .int .i64 1]) ∧ Below w.heap.size w w' := by
  refine do_pair 19 n1 n2 n m 0 0 0 1 156 u v (toldT 175) w S19 (okN_top o1) o1 ⟨(19, S19), by simp [tableL], rfl⟩ (by simp [tableL]) rfl ?_
  intro W x1 x2 gv W0 h1 h2 hg hB
  exact pair_bad n1 n2 n m u v x1 x2 W hv o2
theorem do20_yes (n1 n2 n m : Int) (u v : Nat) (w : World) (o1 : okN n1 u = true) (o2 : okN n2 v = true) (hf : (n1 == n2) = true) :
    Calls Tryz.prog 111 #[.int .u8 20, .agg #[.int .i64 n1, .int .u64 (wHi u), .int .u64 (wLo u)], .agg #[.int .i64 n2, .int .u64 (wHi v), .int .u64 (wLo v)], .int .i64 n, .int .i64 m] w fun e w' => e = .returned (.tuple #[.agg #[.int .i64 1, .int .u64 (wHi (decide (u ≤ v)).toNat), .int .u64 (wLo (decide (u ≤ v)).toNat)], .int .i64 0]) ∧ Below w.heap.size w w' := by
  obtain ⟨⟨b0, b1⟩, b2⟩ := okN_iff.1 o1
  obtain ⟨⟨c0, c1⟩, c2⟩ := okN_iff.1 o2
  refine do_pair 20 n1 n2 n m _ _ _ 0 156 u v (toldT 176) w S20 (okN_top o1) o1 ⟨(20, S20), by simp [tableL], rfl⟩ (by simp [tableL]) rfl ?_
  · intro W x1 x2 gv W0 h1 h2 hg hB
    have en : n1 = n2 := by simpa using hf
    obtain ⟨c, hgv, hcc⟩ := hg
    subst hgv
    rw [(wBool _).1, (wBool _).2]
    subst en
    exact pair_yes1 156 193 (.pointer (some ⟨c, 0, none⟩)) n1 n1 n m _ _ _ u v x1 x2 W (okN_top o2) o2 h1 h2 ent_alike ent_told_1 (fun W => by have := alike_any n1 n1 W; rw [hf] at this; exact this)
      (fun W' hB' => told_val 176 _ _ _ c n1 (wHi u) (wLo u) n1 (wHi v) (wLo v) W' rfl rfl (cell_of_one ((hB'.block c (Nat.lt_of_lt_of_le (lt_of_block hcc) hB.size)).trans ((hB.block c (lt_of_block hcc)).trans hcc))) ent_operations_3 (fun W'' => leQ n1 n1 u v W''))
theorem do20_wide (n1 n2 n m : Int) (u v : Nat) (w : World) (o1 : okN n1 u = true) (o2 : okN n2 v = true) (hf : (n1 == n2) = false) :
    Calls Tryz.prog 111 #[.int .u8 20, .agg #[.int .i64 n1, .int .u64 (wHi u), .int .u64 (wLo u)], .agg #[.int .i64 n2, .int .u64 (wHi v), .int .u64 (wLo v)], .int .i64 n, .int .i64 m] w fun e w' => e = .returned (.tuple #[.agg #[.int .i64 0, .int .u64 0, .int .u64 0], .int .i64 7]) ∧ Below w.heap.size w w' := by
  obtain ⟨⟨b0, b1⟩, b2⟩ := okN_iff.1 o1
  obtain ⟨⟨c0, c1⟩, c2⟩ := okN_iff.1 o2
  refine do_pair 20 n1 n2 n m 0 0 0 7 156 u v (toldT 176) w S20 (okN_top o1) o1 ⟨(20, S20), by simp [tableL], rfl⟩ (by simp [tableL]) rfl ?_
  intro W x1 x2 gv W0 h1 h2 hg hB
  exact pair_wide 156 n1 n2 n m u v x1 x2 W (okN_top o2) o2 h1 ent_alike (fun W => by have := alike_any n1 n2 W; rw [hf] at this; exact this)
theorem do20_bad2 (n1 n2 n m : Int) (u v : Nat) (w : World) (o1 : okN n1 u = true) (hv : v < top) (o2 : okN n2 v = false) :
    Calls Tryz.prog 111 #[.int .u8 20, .agg #[.int .i64 n1, .int .u64 (wHi u), .int .u64 (wLo u)], .agg #[.int .i64 n2, .int .u64 (wHi v), .int .u64 (wLo v)], .int .i64 n, .int .i64 m] w fun e w' => e = .returned (.tuple #[.agg #[.int .i64 0, .int .u64 0, .int .u64 0], .int .i64 1]) ∧ Below w.heap.size w w' := by
  refine do_pair 20 n1 n2 n m 0 0 0 1 156 u v (toldT 176) w S20 (okN_top o1) o1 ⟨(20, S20), by simp [tableL], rfl⟩ (by simp [tableL]) rfl ?_
  intro W x1 x2 gv W0 h1 h2 hg hB
  exact pair_bad n1 n2 n m u v x1 x2 W hv o2
theorem do21_yes (n1 n2 n m : Int) (u v : Nat) (w : World) (o1 : okN n1 u = true) (o2 : okN n2 v = true) (hf : (n1 == 1 && n2 == 1) = true) :
    Calls Tryz.prog 111 #[.int .u8 21, .agg #[.int .i64 n1, .int .u64 (wHi u), .int .u64 (wLo u)], .agg #[.int .i64 n2, .int .u64 (wHi v), .int .u64 (wLo v)], .int .i64 n, .int .i64 m] w fun e w' => e = .returned (.tuple #[.agg #[.int .i64 n1, .int .u64 (wHi (u &&& v)), .int .u64 (wLo (u &&& v))], .int .i64 0]) ∧ Below w.heap.size w w' := by
  obtain ⟨⟨b0, b1⟩, b2⟩ := okN_iff.1 o1
  obtain ⟨⟨c0, c1⟩, c2⟩ := okN_iff.1 o2
  refine do_pair 21 n1 n2 n m _ _ _ 0 177 u v (plainT 160) w S21 (okN_top o1) o1 ⟨(21, S21), by simp [tableL], rfl⟩ (by simp [tableL]) rfl ?_
  · intro W x1 x2 gv W0 h1 h2 hg hB
    have hgv : gv = .func (Fn.func 160) #[] #[] := hg
    subst hgv
    exact pair_yes 177 160 n1 n2 n m _ _ _ u v x1 x2 W (okN_top o2) o2 h1 h2 ent_single ent_and (fun W => by have := single_any n1 n2 W; rw [hf] at this; exact this) (fun W _ => andV n1 n2 u v W (okN_top o1) (okN_top o2))
theorem do21_wide (n1 n2 n m : Int) (u v : Nat) (w : World) (o1 : okN n1 u = true) (o2 : okN n2 v = true) (hf : (n1 == 1 && n2 == 1) = false) :
    Calls Tryz.prog 111 #[.int .u8 21, .agg #[.int .i64 n1, .int .u64 (wHi u), .int .u64 (wLo u)], .agg #[.int .i64 n2, .int .u64 (wHi v), .int .u64 (wLo v)], .int .i64 n, .int .i64 m] w fun e w' => e = .returned (.tuple #[.agg #[.int .i64 0, .int .u64 0, .int .u64 0], .int .i64 7]) ∧ Below w.heap.size w w' := by
  obtain ⟨⟨b0, b1⟩, b2⟩ := okN_iff.1 o1
  obtain ⟨⟨c0, c1⟩, c2⟩ := okN_iff.1 o2
  refine do_pair 21 n1 n2 n m 0 0 0 7 177 u v (plainT 160) w S21 (okN_top o1) o1 ⟨(21, S21), by simp [tableL], rfl⟩ (by simp [tableL]) rfl ?_
  intro W x1 x2 gv W0 h1 h2 hg hB
  exact pair_wide 177 n1 n2 n m u v x1 x2 W (okN_top o2) o2 h1 ent_single (fun W => by have := single_any n1 n2 W; rw [hf] at this; exact this)
theorem do21_bad2 (n1 n2 n m : Int) (u v : Nat) (w : World) (o1 : okN n1 u = true) (hv : v < top) (o2 : okN n2 v = false) :
    Calls Tryz.prog 111 #[.int .u8 21, .agg #[.int .i64 n1, .int .u64 (wHi u), .int .u64 (wLo u)], .agg #[.int .i64 n2, .int .u64 (wHi v), .int .u64 (wLo v)], .int .i64 n, .int .i64 m] w fun e w' => e = .returned (.tuple #[.agg #[.int .i64 0, .int .u64 0, .int .u64 0], .int .i64 1]) ∧ Below w.heap.size w w' := by
  refine do_pair 21 n1 n2 n m 0 0 0 1 177 u v (plainT 160) w S21 (okN_top o1) o1 ⟨(21, S21), by simp [tableL], rfl⟩ (by simp [tableL]) rfl ?_
  intro W x1 x2 gv W0 h1 h2 hg hB
  exact pair_bad n1 n2 n m u v x1 x2 W hv o2
theorem do22_yes (n1 n2 n m : Int) (u v : Nat) (w : World) (o1 : okN n1 u = true) (o2 : okN n2 v = true) (hf : (n1 == 1 && n2 == 1) = true) :
    Calls Tryz.prog 111 #[.int .u8 22, .agg #[.int .i64 n1, .int .u64 (wHi u), .int .u64 (wLo u)], .agg #[.int .i64 n2, .int .u64 (wHi v), .int .u64 (wLo v)], .int .i64 n, .int .i64 m] w fun e w' => e = .returned (.tuple #[.agg #[.int .i64 n1, .int .u64 (wHi (u ||| v)), .int .u64 (wLo (u ||| v))], .int .i64 0]) ∧ Below w.heap.size w w' := by
  obtain ⟨⟨b0, b1⟩, b2⟩ := okN_iff.1 o1
  obtain ⟨⟨c0, c1⟩, c2⟩ := okN_iff.1 o2
  refine do_pair 22 n1 n2 n m _ _ _ 0 177 u v (plainT 161) w S22 (okN_top o1) o1 ⟨(22, S22), by simp [tableL], rfl⟩ (by simp [tableL]) rfl ?_
  · intro W x1 x2 gv W0 h1 h2 hg hB
    have hgv : gv = .func (Fn.func 161) #[] #[] := hg
    subst hgv
    exact pair_yes 177 161 n1 n2 n m _ _ _ u v x1 x2 W (okN_top o2) o2 h1 h2 ent_single ent_or (fun W => by have := single_any n1 n2 W; rw [hf] at this; exact this) (fun W _ => orV n1 n2 u v W (okN_top o1) (okN_top o2))
theorem do22_wide (n1 n2 n m : Int) (u v : Nat) (w : World) (o1 : okN n1 u = true) (o2 : okN n2 v = true) (hf : (n1 == 1 && n2 == 1) = false) :
    Calls Tryz.prog 111 #[.int .u8 22, .agg #[.int .i64 n1, .int .u64 (wHi u), .int .u64 (wLo u)], .agg #[.int .i64 n2, .int .u64 (wHi v), .int .u64 (wLo v)], .int .i64 n, .int .i64 m] w fun e w' => e = .returned (.tuple #[.agg #[.int .i64 0, .int .u64 0, .int .u64 0], .int .i64 7]) ∧ Below w.heap.size w w' := by
  obtain ⟨⟨b0, b1⟩, b2⟩ := okN_iff.1 o1
  obtain ⟨⟨c0, c1⟩, c2⟩ := okN_iff.1 o2
  refine do_pair 22 n1 n2 n m 0 0 0 7 177 u v (plainT 161) w S22 (okN_top o1) o1 ⟨(22, S22), by simp [tableL], rfl⟩ (by simp [tableL]) rfl ?_
  intro W x1 x2 gv W0 h1 h2 hg hB
  exact pair_wide 177 n1 n2 n m u v x1 x2 W (okN_top o2) o2 h1 ent_single (fun W => by have := single_any n1 n2 W; rw [hf] at this; exact this)
theorem do22_bad2 (n1 n2 n m : Int) (u v : Nat) (w : World) (o1 : okN n1 u = true) (hv : v < top) (o2 : okN n2 v = false) :
    Calls Tryz.prog 111 #[.int .u8 22, .agg #[.int .i64 n1, .int .u64 (wHi u), .int .u64 (wLo u)], .agg #[.int .i64 n2, .int .u64 (wHi v), .int .u64 (wLo v)], .int .i64 n, .int .i64 m] w fun e w' => e = .returned (.tuple #[.agg #[.int .i64 0, .int .u64 0, .int .u64 0], .int .i64 1]) ∧ Below w.heap.size w w' := by
  refine do_pair 22 n1 n2 n m 0 0 0 1 177 u v (plainT 161) w S22 (okN_top o1) o1 ⟨(22, S22), by simp [tableL], rfl⟩ (by simp [tableL]) rfl ?_
  intro W x1 x2 gv W0 h1 h2 hg hB
  exact pair_bad n1 n2 n m u v x1 x2 W hv o2
end Go.Proofs.YtlipcmonlhdgfaaGreat
