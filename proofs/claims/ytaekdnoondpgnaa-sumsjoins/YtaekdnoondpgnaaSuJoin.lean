/- pointsmanlaw03.SumsJoins, walked. -/
import Derived.Test.YtaekdnoondpgnaaSuLaw
import Derived.Test.YtaekdnoondpgnaaOwn8
import Derived.RegionTactic
import Derived.Deep.RegionLaw
namespace Go.Proofs.Ytaekdnoondpgnaa
open Go.RowKit

/- An append of one byte to a row of one's own, inside a region that draws its order. -/
theorem step_app8 {ops : Array Oper} {o : Oper} {a : Act} {w : World} {K : Act → World → Prop} {Q : Exit → Act → World → Prop} {E : Prop}
    (hg : o.guard = none) (s x : Operand) (hop : o.op = Op.call { callee := Callee.builtin Builtin.append, args := #[s, x], argTypes := #[22, 22] })
    (B : Nat) (v : Value) (xs : List Nat) (hs : a.eval s = v) (hown : Own8 w B v xs) (p : Nat) (y : Nat) (hx : a.eval x = .slice (some ⟨p, 0, none⟩) 1 1) (hr : RdA w (some ⟨p, 0, none⟩) [y])
    (hl : xs.length ≤ 1000000000) (hB : B ≤ w.heap.size)
    (hK : ∀ v' w', Own8 w' B v' (xs ++ [y]) → w.grownBy w' v.ownBlock → (v'.ownBlock = v.ownBlock ∨ v'.ownBlock = some w.heap.size) → K (a.put o.dst v') w') :
    if Region.wanted o (yielded ops a.tmps) = true then Oper.wp Try.prog o a w K Q else E := by
  have hw : Region.wanted o (yielded ops a.tmps) = true := by simp [Region.wanted, hg]
  rw [if_pos hw]
  obtain ⟨i0, hi0, hz0, hz1, hz2⟩ := info_parts Try.info8
  obtain ⟨p', off, e, _, hc⟩ := hr.some (by simp)
  injection e with e
  injection e with e1 e2
  subst e1 e2
  obtain ⟨v', w', hrun, r1, r2, _, r4⟩ := run_append_own_at (P := Try.prog) w B 22 o.type 5 i0 (.int .u8 0) 1 1 Try.underlying22 hi0 hz0 hz1 hz2 rfl (by decide) v xs.length (u8s xs) hown ⟨p, 0, none⟩ 1 1 (u8s [y]) rfl (rdA_src hc) (u8s_one [y]) (by unfold maxLen; omega) (by omega) hB
  unfold Oper.wp
  simp [execOp, hop, resolve, invoke, builtin, hs, hx, hrun, Result.andThen]
  refine hK v' w' ?_ r2 r4
  unfold Own8
  rw [List.length_append, u8s_append]
  exact r1
structure Two (w W : World) (v1 v2 : Value) (xs ys : List Nat) : Prop where
  below : Below w.heap.size w W
  o1 : Own8 W w.heap.size v1 xs
  o2 : Own8 W w.heap.size v2 ys
  ne : ∀ k, v1.ownBlock = some k → v2.ownBlock ≠ some k
theorem Two.next {w W W' : World} {v1 v2 : Value} {xs ys : List Nat} (h : Two w W v1 v2 xs ys) (hb : Below W.heap.size W W') : Two w W' v1 v2 xs ys := ⟨h.below.trans (hb.mono h.below.size), h.o1.below hb, h.o2.below hb, h.ne⟩
theorem Two.left {w W W' : World} {v1 v2 v' : Value} {xs ys zs : List Nat} (h : Two w W v1 v2 xs ys) (ho : Own8 W' w.heap.size v' zs) (hg : W.grownBy W' v1.ownBlock) (hv : v'.ownBlock = v1.ownBlock ∨ v'.ownBlock = some W.heap.size) : Two w W' v' v2 zs ys := by
  refine ⟨below_own h.below h.o1 hg h.below.size, ho, h.o2.kept hg ?_, fun k hk => ?_⟩
  · cases e : v1.ownBlock with
    | none => cases e2 : v2.ownBlock with
      | none => exact .inl rfl
      | some k => exact .inr (by simp)
    | some k => exact .inr (fun e2 => h.ne k e e2)
  · rcases hv with e | e
    · exact h.ne k (e ▸ hk)
    · intro h2
      have := (World.ownsRow.lt h.o2 k h2).2
      rw [e] at hk
      injection hk with hk
      omega
theorem Two.right {w W W' : World} {v1 v2 v' : Value} {xs ys zs : List Nat} (h : Two w W v1 v2 xs ys) (ho : Own8 W' w.heap.size v' zs) (hg : W.grownBy W' v2.ownBlock) (hv : v'.ownBlock = v2.ownBlock ∨ v'.ownBlock = some W.heap.size) : Two w W' v1 v' xs zs := by
  refine ⟨below_own h.below h.o2 hg h.below.size, h.o1.kept hg ?_, ho, fun k hk => ?_⟩
  · cases e : v1.ownBlock with
    | none => exact .inl rfl
    | some k => exact .inr (fun e2 => h.ne k e e2.symm)
  · rcases hv with e | e
    · rw [e]; exact h.ne k hk
    · intro h2
      have := (World.ownsRow.lt h.o1 k hk).2
      rw [e] at h2
      injection h2 with h2
      omega
/- The lists that come to be. -/
def jx (az bz cz : List Nat) (k : Nat) : List Nat := (List.range k).map fun i => az.getD i 0 ^^^ bz.getD i 0 ^^^ cz.getD i 0
def jy (az bz : List Nat) (k : Nat) : List Nat := (List.range k).map fun i => az.getD i 0 ^^^ bz.getD i 0
theorem jx_succ (az bz cz : List Nat) (k : Nat) : jx az bz cz (k + 1) = jx az bz cz k ++ [az.getD k 0 ^^^ bz.getD k 0 ^^^ cz.getD k 0] := by simp [jx, List.range_succ]
theorem jy_succ (az bz : List Nat) (k : Nat) : jy az bz (k + 1) = jy az bz k ++ [az.getD k 0 ^^^ bz.getD k 0] := by simp [jy, List.range_succ]
theorem jx_length (az bz cz : List Nat) (k : Nat) : (jx az bz cz k).length = k := by simp [jx]
theorem jy_length (az bz : List Nat) (k : Nat) : (jy az bz k).length = k := by simp [jy]
theorem getD_byte {l : List Nat} (hl : ∀ x ∈ l, x < 256) (j : Nat) : l.getD j 0 < 256 := by
  rw [List.getD_eq_getElem?_getD]
  cases h : l[j]? with
  | none => simp
  | some x => simpa using hl x (List.mem_of_getElem? h)
theorem jx_byte {az bz cz : List Nat} (ha : ∀ x ∈ az, x < 256) (hb : ∀ x ∈ bz, x < 256) (hc : ∀ x ∈ cz, x < 256) (k : Nat) : ∀ x ∈ jx az bz cz k, x < 256 := by
  intro x hx
  obtain ⟨i, _, rfl⟩ := List.mem_map.1 hx
  exact xor_byte (xor_byte (getD_byte ha i) (getD_byte hb i)) (getD_byte hc i)
theorem jy_byte {az bz : List Nat} (ha : ∀ x ∈ az, x < 256) (hb : ∀ x ∈ bz, x < 256) (k : Nat) : ∀ x ∈ jy az bz k, x < 256 := by
  intro x hx
  obtain ⟨i, _, rfl⟩ := List.mem_map.1 hx
  exact xor_byte (getD_byte ha i) (getD_byte hb i)
theorem numL_snoc (l : List Nat) (x : Nat) (hl : ∀ y ∈ l, y < 256) : numL (l ++ [x]) = numL l ^^^ 2 ^ (8 * l.length) * x := by
  induction l with
  | nil => simp [numL]
  | cons y l ih =>
    have hy := hl y (List.mem_cons_self ..)
    rw [List.cons_append, numL, ih (fun z hz => hl z (List.mem_cons_of_mem _ hz)), numL, add_xor hy, add_xor hy]
    have e := Nat.shiftLeft_xor_distrib (a := numL l) (b := 2 ^ (8 * l.length) * x) (i := 8)
    simp only [Nat.shiftLeft_eq] at e
    rw [show (2 : Nat) ^ 8 = 256 by decide] at e
    rw [Nat.mul_comm 256 (numL l ^^^ _), e, Nat.mul_comm (numL l) 256, List.length_cons, show 8 * (l.length + 1) = 8 * l.length + 8 by omega, Nat.pow_add, show (2 : Nat) ^ 8 = 256 by decide]
    rw [show 2 ^ (8 * l.length) * x * 256 = 2 ^ (8 * l.length) * 256 * x by rw [Nat.mul_assoc, Nat.mul_comm x, ← Nat.mul_assoc]]
    simp only [Nat.xor_assoc, Nat.xor_comm y]
theorem pow_xor2 (f a b : Nat) : 2 ^ f * (a ^^^ b) = 2 ^ f * a ^^^ 2 ^ f * b := by
  have := Nat.shiftLeft_xor_distrib (a := a) (b := b) (i := f)
  simp only [Nat.shiftLeft_eq] at this
  rw [Nat.mul_comm, this, Nat.mul_comm a, Nat.mul_comm b]
theorem take_getD (l : List Nat) (k : Nat) (h : k < l.length) : l.take (k + 1) = l.take k ++ [l.getD k 0] := by rw [List.take_succ_eq_append_getElem h, getD_in _ _ h]
theorem xor6 (a b c d e f : Nat) : a ^^^ b ^^^ c ^^^ (d ^^^ e ^^^ f) = (a ^^^ d) ^^^ (b ^^^ e) ^^^ (c ^^^ f) := by
  apply Nat.eq_of_testBit_eq; intro i
  simp only [Nat.testBit_xor]
  cases a.testBit i <;> cases b.testBit i <;> cases c.testBit i <;> cases d.testBit i <;> cases e.testBit i <;> cases f.testBit i <;> rfl
theorem xor4 (a b d e : Nat) : a ^^^ b ^^^ (d ^^^ e) = (a ^^^ d) ^^^ (b ^^^ e) := by
  apply Nat.eq_of_testBit_eq; intro i
  simp only [Nat.testBit_xor]
  cases a.testBit i <;> cases b.testBit i <;> cases d.testBit i <;> cases e.testBit i <;> rfl
theorem jx_num {az bz cz : List Nat} (ha : ∀ x ∈ az, x < 256) (hb : ∀ x ∈ bz, x < 256) (hc : ∀ x ∈ cz, x < 256) (k : Nat) (h1 : k ≤ az.length) (h2 : k ≤ bz.length) (h3 : k ≤ cz.length) : numL (jx az bz cz k) = numL (az.take k) ^^^ numL (bz.take k) ^^^ numL (cz.take k) := by
  induction k with
  | zero => simp [jx, numL]
  | succ k ih =>
    have mt : ∀ {l : List Nat}, (∀ x ∈ l, x < 256) → ∀ x ∈ l.take k, x < 256 := fun hl x hx => hl x (List.mem_of_mem_take hx)
    rw [jx_succ, numL_snoc _ _ (jx_byte ha hb hc k), ih (by omega) (by omega) (by omega), jx_length, take_getD az k (by omega), take_getD bz k (by omega), take_getD cz k (by omega), numL_snoc _ _ (mt ha), numL_snoc _ _ (mt hb), numL_snoc _ _ (mt hc), List.length_take, List.length_take, List.length_take, Nat.min_eq_left (by omega), Nat.min_eq_left (by omega), Nat.min_eq_left (by omega), pow_xor2, pow_xor2, xor6]
theorem join_crc (n : Nat) (hn : n = 1 ∨ n = 2) {az bz cz : List Nat} (ha : ∀ x ∈ az, x < 256) (hb : ∀ x ∈ bz, x < 256) (hc : ∀ x ∈ cz, x < 256) (k : Nat) (h1 : k ≤ az.length) (h2 : k ≤ bz.length) (h3 : k ≤ cz.length) :
    sumF n (jx az bz cz k) = sumF n (az.take k) ^^^ sumF n (bz.take k) ^^^ sumF n (cz.take k) := by
  have mt : ∀ {l : List Nat}, (∀ x ∈ l, x < 256) → ∀ x ∈ l.take k, x < 256 := fun hl x hx => hl x (List.mem_of_mem_take hx)
  have lt : ∀ {l : List Nat}, k ≤ l.length → (l.take k).length = k := fun h => by rw [List.length_take, Nat.min_eq_left h]
  have hN := jx_num ha hb hc k h1 h2 h3
  rcases hn with rfl | rfl
  · exact crc_joins 0xa001 0 _ _ _ k (lt h1) (lt h2) (lt h3) (mt ha) (mt hb) (mt hc) _ (jx_byte ha hb hc k) (jx_length _ _ _ _) hN
  · have e := crc_joins 0xedb88320 0xffffffff _ _ _ k (lt h1) (lt h2) (lt h3) (mt ha) (mt hb) (mt hc) _ (jx_byte ha hb hc k) (jx_length _ _ _ _) hN
    show crcF 0xedb88320 0xffffffff (jx az bz cz k) ^^^ 0xffffffff = (crcF 0xedb88320 0xffffffff (az.take k) ^^^ 0xffffffff) ^^^ (crcF 0xedb88320 0xffffffff (bz.take k) ^^^ 0xffffffff) ^^^ (crcF 0xedb88320 0xffffffff (cz.take k) ^^^ 0xffffffff)
    rw [e]
    generalize crcF 0xedb88320 0xffffffff (az.take k) = x
    generalize crcF 0xedb88320 0xffffffff (bz.take k) = y
    generalize crcF 0xedb88320 0xffffffff (cz.take k) = z
    have : ∀ a b d f : Nat, a ^^^ b ^^^ d ^^^ f = (a ^^^ f) ^^^ (b ^^^ f) ^^^ (d ^^^ f) := fun a b d f => by
      apply Nat.eq_of_testBit_eq; intro i
      simp only [Nat.testBit_xor]
      cases a.testBit i <;> cases b.testBit i <;> cases d.testBit i <;> cases f.testBit i <;> rfl
    exact this x y z _
theorem word_xor (a b c d : Nat) (hb : b < 256) (hd : d < 256) : 256 * (a ^^^ c) + (b ^^^ d) = (256 * a + b) ^^^ (256 * c + d) := by
  rw [Nat.add_comm, add_xor (xor_byte hb hd), Nat.add_comm (256 * a), Nat.add_comm (256 * c), add_xor hb, add_xor hd]
  have e := pow_xor2 8 a c
  rw [show (2 : Nat) ^ 8 = 256 by decide] at e
  rw [e]
  exact xor4 _ _ _ _
theorem xorW_zip : ∀ (l m : List Nat), l.length = m.length → (∀ x ∈ l, x < 256) → (∀ x ∈ m, x < 256) → xorW (wordsOf (l.zipWith (· ^^^ ·) m)) = xorW (wordsOf l) ^^^ xorW (wordsOf m)
  | [], [], _, _, _ => rfl
  | [x], [y], _, _, _ => by
    simp only [List.zipWith_cons_cons, List.zipWith_nil_left, wordsOf, xorW_cons]
    have e := pow_xor2 8 x y
    rw [show (2 : Nat) ^ 8 = 256 by decide] at e
    simp [e, xorW]
  | x :: x2 :: l, y :: y2 :: m, h, hl, hm => by
    have ih := xorW_zip l m (by simpa using h) (fun z hz => hl z (by simp [hz])) (fun z hz => hm z (by simp [hz]))
    simp only [List.zipWith_cons_cons, wordsOf, xorW_cons]
    rw [ih, word_xor x x2 y y2 (hl x2 (by simp)) (hm y2 (by simp))]
    exact xor4 _ _ _ _
  | [], _ :: _, h, _, _ => by simp at h
  | _ :: _, [], h, _, _ => by simp at h
  | [_], _ :: _ :: _, h, _, _ => by simp at h
  | _ :: _ :: _, [_], h, _, _ => by simp at h
theorem jy_zip (az bz : List Nat) (k : Nat) (h1 : k ≤ az.length) (h2 : k ≤ bz.length) : jy az bz k = (az.take k).zipWith (· ^^^ ·) (bz.take k) := by
  apply List.ext_getElem
  · simp [jy]; omega
  · intro i h3 h4
    have hi : i < k := by simpa [jy] using h3
    simp [jy, List.getElem?_eq_getElem (show i < az.length by omega), List.getElem?_eq_getElem (show i < bz.length by omega)]
theorem join_xor {az bz : List Nat} (ha : ∀ x ∈ az, x < 256) (hb : ∀ x ∈ bz, x < 256) (k : Nat) (h1 : k ≤ az.length) (h2 : k ≤ bz.length) : sumF 4 (jy az bz k) = sumF 4 (az.take k) ^^^ sumF 4 (bz.take k) := by
  rw [jy_zip az bz k h1 h2]
  exact xorW_zip _ _ (by simp; omega) (fun x hx => ha x (List.mem_of_mem_take hx)) (fun x hx => hb x (List.mem_of_mem_take hx))
end Go.Proofs.Ytaekdnoondpgnaa
