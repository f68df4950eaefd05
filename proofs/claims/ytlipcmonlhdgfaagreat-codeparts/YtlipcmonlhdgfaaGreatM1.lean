/- Pieces of the proof: Hide, Rd, RowE, Math, Words, Ofs, WOf, Chk, WCk. -/
import Derived.Test.YtlipcmonlhdgfaaGreatProg
import Derived.WalkKit
import Derived.WalkSpells
import Derived.WalkLawsBesides
import Derived.Laws.Pointers
import Derived.Laws.ResultCell
import Derived.Deep.QuietTactic
import Derived.BigQuiet
import Derived.Deep.RegionHeld3
import Derived.Test.YtlipcmonlhdgfaaGreatRows
import Derived.ProofKit
import Derived.OpenShut
import Derived.ChangeOld
import Derived.ChangeSlices
import Derived.SizedLaws
import Derived.Laws.BitsAllLaws
import Derived.Laws.ShiftsVarLaws
/- A fact that is hidden from the walk. -/
namespace Go.Proofs.YtlipcmonlhdgfaaGreat
open Go.RowKit

theorem hide {p : Prop} (h : p) : Hid p := h
theorem unhide {p : Prop} (h : Hid p) : p := h
end Go.Proofs.YtlipcmonlhdgfaaGreat
/- Bytes that can be read; no package of the program is named. -/
namespace Go.Proofs.YtlipcmonlhdgfaaGreat
open Go.RowKit

theorem bcellR {W w1 : World} (hb : Below W.heap.size W w1) : (∀ b o, b < W.heap.size → w1.cell? ⟨b, o, none⟩ = W.cell? ⟨b, o, none⟩) ∧ (∀ b o, b < W.heap.size → w1.frozen? ⟨b, o, none⟩ = W.frozen? ⟨b, o, none⟩) :=
  ⟨fun b o h => hb.cell (p := ⟨b, o, none⟩) h, fun b o h => hb.frozen (p := ⟨b, o, none⟩) h⟩

/- Bytes that can be read. -/
def RdA (W : World) (a : Option Addr) (xs : List Nat) : Prop :=
  xs = [] ∨ ∃ p off, a = some ⟨p, off, none⟩ ∧ p < W.heap.size ∧ ∀ i (h : i < xs.length), W.cell? ⟨p, off + i, none⟩ = some (.int .u8 (xs[i] : Nat))
theorem RdA.below {W W' : World} {a : Option Addr} {xs : List Nat} (h : RdA W a xs) (hb : Below W.heap.size W W') : RdA W' a xs := by
  rcases h with h | ⟨p, off, rfl, hp, hc⟩
  · exact .inl h
  · exact .inr ⟨p, off, rfl, Nat.lt_of_lt_of_le hp hb.size, fun i hi => (hb.cell (p := ⟨p, off + i, none⟩) hp).trans (hc i hi)⟩
theorem RdA.some {W : World} {a : Option Addr} {xs : List Nat} (h : RdA W a xs) (hx : 0 < xs.length) : ∃ p off, a = some ⟨p, off, none⟩ ∧ p < W.heap.size ∧ ∀ i (h : i < xs.length), W.cell? ⟨p, off + i, none⟩ = some (.int .u8 (xs[i] : Nat)) := by
  rcases h with rfl | h
  · simp at hx
  · exact h
theorem below_drewN {B : Nat} {w w' : World} (h : Below B w w') (n : Nat) : Below B w (w'.drewN n) := ⟨h.os, h.tape, h.output, h.size, h.block⟩
end Go.Proofs.YtlipcmonlhdgfaaGreat
/- What came in, opened: a list of anything, if one element can be opened. -/
namespace Go.Proofs.YtlipcmonlhdgfaaGreat
open Go.ChangeShapes Go.WideShapes Go.ChangeAt Go.RowKit

theorem ownE : ownKnob Tryz.prog.godebug = none := by kernel_rfl
theorem laidOutE : laidOutB Tryz.prog = true := by kernel_rfl
theorem byteE {x : Int} (h : (Lit.int .u8 x).wf = true) : 0 ≤ x ∧ x < 256 := by
  simp [Lit.wf, IntKind.min, IntKind.max, IntKind.signed, IntKind.bits] at h
  exact ⟨by omega, by omega⟩
theorem wordE {x : Int} (h : (Lit.int .u64 x).wf = true) : 0 ≤ x ∧ x < 18446744073709551616 := by
  simp [Lit.wf, IntKind.min, IntKind.max, IntKind.signed, IntKind.bits] at h
  exact ⟨by omega, by omega⟩
theorem intE {x : Int} (h : (Lit.int .i64 x).wf = true) : -9223372036854775808 ≤ x ∧ x < 9223372036854775808 := by
  simp [Lit.wf, IntKind.min, IntKind.max, IntKind.signed, IntKind.bits] at h
  exact ⟨by omega, by omega⟩
theorem add_atE (b o i : Nat) : (⟨b, o, none⟩ : Addr).add i = ⟨b, o + i, none⟩ := by simp [Addr.add]
theorem cell_ltE {W : World} {a : Addr} {v : Value} (h : W.cell? a = some v) : a.spot = none ∧ a.block < W.heap.size := by
  unfold World.cell? at h
  cases hb : W.heap[a.block]? with
  | none => rw [hb] at h; simp at h
  | some o =>
    refine ⟨?_, (Array.getElem?_eq_some_iff.1 hb).1⟩
    rw [hb] at h
    cases o with
    | cells c t f =>
      simp only at h
      split at h
      · cases h
      · rename_i hs; simpa using hs
    | _ => simp at h
theorem mem_weightsE {H : Type} {P : Program} {e : TypeId} {d : DataW H} : ∀ {ds : List (DataW H)}, d ∈ ds → ∀ x ∈ d.weights P e, x ∈ DataW.weightsAll P e ds := by
  intro ds
  induction ds with
  | nil => intro h; simp at h
  | cons y r ih =>
    intro h x hx
    rw [DataW.weightsAll]
    rcases List.mem_cons.1 h with rfl | h
    · exact List.mem_append_left _ hx
    · exact List.mem_append_right _ (ih h x hx)
theorem exists_listE {α : Type} (n : Nat) (Q : Nat → α → Prop) (h : ∀ i, i < n → ∃ a, Q i a) : ∃ l : List α, l.length = n ∧ ∀ i (h : i < l.length), Q i l[i] := by
  induction n with
  | zero => exact ⟨[], rfl, fun i h => by simp at h⟩
  | succ n ih =>
    obtain ⟨l, h1, h2⟩ := ih (fun i hi => h i (by omega))
    obtain ⟨a, ha⟩ := h n (by omega)
    refine ⟨l ++ [a], by simp [h1], fun i hi => ?_⟩
    by_cases e : i < l.length
    · rw [List.getElem_append_left e]; exact h2 i e
    · have : i = l.length := by simp at hi; omega
      subst this
      simp only [List.getElem_concat_length]
      rw [h1]; exact ha
/- What a list of elements of c cells is. -/
structure LiE {α : Type} (W : World) (c : Nat) (f : α → List Value) (a : Option Addr) (cap : Nat) (l : List α) : Prop where
  nn : a = none → cap = 0
  le : l.length ≤ cap
  rd : l = [] ∨ ∃ p off, a = some ⟨p, off, none⟩ ∧ p < W.heap.size ∧ ∀ i (h : i < l.length) j u, (f l[i])[j]? = some u → W.cell? ⟨p, off + i * c + j, none⟩ = some u
set_option maxRecDepth 100000 in
theorem open_list {H : Type} {enc : TypeId × Value → H} {W : World} {base fuel : Nat} {t e : TypeId} (ht : Tryz.prog.underlying t = some (.slice e)) {c : Nat} (hc : Tryz.prog.cellsOf e = c) (c0 : 0 < c) {α : Type} (f : α → List Value) (R : α → Prop)
    (one : ∀ {fuel : Nat} {cs : List Value} {x : DataW H × List MemPlace}, DataW.trod enc Tryz.prog W base (fun _ => true) true fuel e cs = some x → (∀ n ∈ x.1.weights Tryz.prog e, n ≤ reachBytes) → ∃ y, cs = f y ∧ R y)
    {v : Value} {x : DataW H × List MemPlace} (h : DataW.trod enc Tryz.prog W base (fun _ => true) true fuel t [v] = some x) (hw : ∀ n ∈ x.1.weights Tryz.prog t, n ≤ reachBytes) :
    ∃ (a : Option Addr) (cap : Nat) (l : List α), v = .slice a l.length cap ∧ LiE W c f a cap l ∧ l.length * Tryz.prog.bytesOf e ≤ reachBytes ∧ ∀ y ∈ l, R y := by
  rcases DataW.trod_slice ht h with ⟨hcs, _⟩ | ⟨a, len, cap, elems, rest, n, _, hcs, hx, _, hl, _, hlen, hel, _⟩
  · simp at hcs
    subst hcs
    exact ⟨none, 0, [], rfl, ⟨fun _ => rfl, Nat.le_refl _, .inl rfl⟩, by simp, fun y hy => by simp at hy⟩
  · simp at hcs
    subst hcs
    have hwx : x.1.weights Tryz.prog t = ((elems.map (·.1)).length + (rest.map (·.1)).length) * Tryz.prog.bytesOf e :: (DataW.weightsAll Tryz.prog e (elems.map (·.1)) ++ DataW.weightsAll Tryz.prog e (rest.map (·.1))) := by
      rw [hx, DataW.weights, ht]
    rw [hc] at hel
    obtain ⟨l, hll, hls⟩ := exists_listE (α := α) len (fun i y => (∀ j u, (f y)[j]? = some u → W.cell? ((a.add (i * c)).add j) = some u) ∧ (f y).length = c ∧ R y) (fun i hi => by
      have hE := hel i hi
      have hi' : i < elems.length := by omega
      rw [List.getElem?_eq_getElem hi', Option.bind_eq_some_iff] at hE
      obtain ⟨cs', hcs', hy⟩ := hE
      obtain ⟨_, hcl, hcg⟩ := World.cells?_some hcs'
      obtain ⟨y, rfl, hR⟩ := one hy (fun m hm => hw m (by
        rw [hwx]
        exact List.mem_cons_of_mem _ (List.mem_append_left _ (mem_weightsE (List.mem_map.2 ⟨_, List.getElem_mem hi', rfl⟩) m hm))))
      exact ⟨y, fun j u hu => by rw [hcg j (by have := (List.getElem?_eq_some_iff.1 hu).1; omega)]; exact hu, hcl, hR⟩)
    have hbytes : l.length * Tryz.prog.bytesOf e ≤ reachBytes := by
      have h1 := hw _ (by rw [hwx]; exact List.mem_cons_self ..)
      simp only [List.length_map] at h1
      refine Nat.le_trans (Nat.mul_le_mul_right _ ?_) h1
      omega
    refine ⟨some a, cap, l, by rw [hll], ⟨fun e => (by cases e), by omega, ?_⟩, hbytes, fun y hy => ?_⟩
    · by_cases h0 : l = []
      · exact .inl h0
      · right
        have hpos : 0 < l.length := List.length_pos_iff.2 h0
        obtain ⟨h1, h2, _⟩ := hls 0 hpos
        have hu : ∃ u, (f l[0])[0]? = some u := ⟨(f l[0])[0], List.getElem?_eq_getElem (by omega)⟩
        obtain ⟨u, hu⟩ := hu
        have hz := cell_ltE (h1 0 u hu)
        obtain ⟨b, off, sp⟩ := a
        have e0 : ((⟨b, off, sp⟩ : Addr).add (0 * c)).add 0 = ⟨b, off, sp⟩ := by simp [Addr.add]
        rw [e0] at hz
        obtain ⟨rfl, hlt⟩ : sp = none ∧ b < W.heap.size := hz
        refine ⟨b, off, rfl, hlt, fun i hi j u hu => ?_⟩
        have := (hls i hi).1 j u hu
        rw [add_atE, add_atE] at this
        exact this
    · obtain ⟨i, hi, rfl⟩ := List.getElem_of_mem hy
      exact (hls i hi).2.2
end Go.Proofs.YtlipcmonlhdgfaaGreat
/- Plain facts on words and lists of bits: no Go in sight. -/
namespace Go.Proofs.YtlipcmonlhdgfaaGreat

def low (n : Int) : Int := 2 ^ n.toNat - 1
def cLo (n lo : Int) : Int := if n ≤ 64 then lo % 2 ^ n.toNat else lo
def cHi (n hi : Int) : Int := if n ≤ 64 then 0 else hi % 2 ^ (n - 64).toNat
theorem cLo_le {n lo : Int} (h : n ≤ 64) : cLo n lo = lo % 2 ^ n.toNat := by unfold cLo; rw [if_pos h]
theorem cLo_gt {n lo : Int} (h : 64 < n) : cLo n lo = lo := by unfold cLo; rw [if_neg (by omega)]
theorem cHi_le {n hi : Int} (h : n ≤ 64) : cHi n hi = 0 := by unfold cHi; rw [if_pos h]
theorem cHi_gt {n hi : Int} (h : 64 < n) : cHi n hi = hi % 2 ^ (n - 64).toNat := by unfold cHi; rw [if_neg (by omega)]
def bitB (hi lo : Int) (i : Nat) : Bool := if i < 64 then lo.toNat.testBit i else hi.toNat.testBit (i - 64)
def bitsTo (hi lo : Int) (k : Nat) : List Bool := (List.range k).map (bitB hi lo)
def valL : List Bool → Nat
  | [] => 0
  | b :: r => b.toNat + 2 * valL r
def numLo (l : List Bool) : Nat := valL (l.take 64)
def numHi (l : List Bool) : Nat := valL ((l.drop 64).take 64)

theorem valL_lt (l : List Bool) : valL l < 2 ^ l.length := by
  induction l with
  | nil => simp [valL]
  | cons b r ih => simp only [valL, List.length_cons, Nat.pow_succ]; cases b <;> simp <;> omega

theorem valL_testBit (l : List Bool) (i : Nat) : (valL l).testBit i = l.getD i false := by
  induction l generalizing i with
  | nil => simp [valL]
  | cons b r ih =>
    cases i with
    | zero => cases b <;> simp [valL, Nat.testBit_zero]
    | succ j =>
      have h := ih j
      simp only [valL, Nat.testBit_succ, List.getD_cons_succ]
      rw [← h]
      congr 1
      cases b <;> simp <;> omega

theorem valL_snoc (l : List Bool) (b : Bool) : valL (l ++ [b]) = valL l + 2 ^ l.length * b.toNat := by
  induction l with
  | nil => simp [valL]
  | cons c r ih => simp only [List.cons_append, valL, ih, List.length_cons, Nat.pow_succ]; rw [Nat.mul_add, Nat.add_assoc, ← Nat.mul_assoc, Nat.mul_comm (2 ^ r.length) 2]

theorem valL_take_succ (l : List Bool) (k : Nat) (h : k < l.length) : valL (l.take (k + 1)) = valL (l.take k) + 2 ^ k * (l[k]).toNat := by
  rw [List.take_succ_eq_append_getElem h, valL_snoc]
  simp [List.length_take, Nat.min_eq_left (Nat.le_of_lt h)]

theorem numLo_lt (l : List Bool) : numLo l < 18446744073709551616 := by
  have h := valL_lt (l.take 64)
  have h2 : (2 : Nat) ^ (l.take 64).length ≤ 2 ^ 64 := Nat.pow_le_pow_right (by decide) (List.length_take_le _ _)
  exact Nat.lt_of_lt_of_le h h2
theorem numHi_lt (l : List Bool) : numHi l < 18446744073709551616 := by
  have h := valL_lt ((l.drop 64).take 64)
  have h2 : (2 : Nat) ^ ((l.drop 64).take 64).length ≤ 2 ^ 64 := Nat.pow_le_pow_right (by decide) (List.length_take_le _ _)
  exact Nat.lt_of_lt_of_le h h2

theorem numLo_nil : numLo [] = 0 := rfl
theorem numHi_nil : numHi [] = 0 := rfl

/- one round of Number -/
theorem numLo_take_set (l : List Bool) (k : Nat) (h : k < l.length) (h64 : k < 64) : numLo (l.take (k + 1)) = numLo (l.take k) + 2 ^ k * (l[k]).toNat := by
  unfold numLo
  rw [List.take_take, List.take_take, Nat.min_eq_right (by omega), Nat.min_eq_right (by omega)]
  exact valL_take_succ l k h
theorem numLo_take_same (l : List Bool) (k : Nat) (h64 : 64 ≤ k) : numLo (l.take (k + 1)) = numLo (l.take k) := by
  unfold numLo
  rw [List.take_take, List.take_take, Nat.min_eq_left (by omega), Nat.min_eq_left (by omega)]
theorem numHi_take_low (l : List Bool) (k : Nat) (h64 : k ≤ 64) : numHi (l.take k) = 0 := by
  unfold numHi
  rw [List.drop_eq_nil_of_le (by simp; omega)]; rfl
theorem numHi_take_set (l : List Bool) (k : Nat) (h : k < l.length) (h64 : 64 ≤ k) (h128 : k < 128) : numHi (l.take (k + 1)) = numHi (l.take k) + 2 ^ (k - 64) * (l[k]).toNat := by
  unfold numHi
  rw [List.drop_take, List.drop_take, List.take_take, List.take_take, Nat.min_eq_right (by omega), Nat.min_eq_right (by omega)]
  have h1 : k - 64 < (l.drop 64).length := by simp; omega
  have h2 := valL_take_succ (l.drop 64) (k - 64) h1
  have h3 : (l.drop 64)[k - 64] = l[k] := by simp [List.getElem_drop]; congr 1; omega
  rw [h3] at h2
  rw [← h2]
  congr 2
  omega
theorem numHi_take_same (l : List Bool) (k : Nat) (h128 : 128 ≤ k) : numHi (l.take (k + 1)) = numHi (l.take k) := by
  unfold numHi
  rw [List.drop_take, List.drop_take, List.take_take, List.take_take, Nat.min_eq_left (by omega), Nat.min_eq_left (by omega)]

/- what Number makes of Bits -/
theorem bitsTo_length (hi lo : Int) (k : Nat) : (bitsTo hi lo k).length = k := by simp [bitsTo]
theorem bitsTo_succ (hi lo : Int) (k : Nat) : bitsTo hi lo (k + 1) = bitsTo hi lo k ++ [bitB hi lo k] := by simp [bitsTo, List.range_succ]
theorem bitsTo_getD (hi lo : Int) (k i : Nat) : (bitsTo hi lo k).getD i false = (decide (i < k) && bitB hi lo i) := by
  by_cases h : i < k
  · simp [bitsTo, List.getD_eq_getElem?_getD, h]
  · simp [bitsTo, List.getD_eq_getElem?_getD, h]

theorem numLo_bits (hi lo : Int) (n : Int) (h0 : 0 ≤ n) (l0 : 0 ≤ lo) (l1 : lo < 18446744073709551616) : ((numLo (bitsTo hi lo n.toNat) : Nat) : Int) = cLo n lo := by
  obtain ⟨n, rfl⟩ := Int.eq_ofNat_of_zero_le h0
  obtain ⟨lo, rfl⟩ := Int.eq_ofNat_of_zero_le l0
  have hlo : lo < 2 ^ 64 := by omega
  have key : numLo (bitsTo hi lo n) = lo % 2 ^ (min n 64) := by
    refine Nat.eq_of_testBit_eq fun j => ?_
    rw [numLo, valL_testBit, Nat.testBit_mod_two_pow]
    have h := bitsTo_getD hi lo n j
    rw [List.getD_eq_getElem?_getD] at h ⊢
    rw [List.getElem?_take]
    by_cases hj : j < 64
    · rw [if_pos hj, h]
      simp only [bitB, if_pos hj, Int.toNat_natCast]
      congr 1
      simp; omega
    · rw [if_neg hj]
      simp; omega
  unfold cLo
  rw [show ((n : Int).toNat) = n from rfl, key]
  by_cases h : (n : Int) ≤ 64
  · rw [if_pos h, Nat.min_eq_left (by omega)]; simp
  · rw [if_neg h, Nat.min_eq_right (by omega), Nat.mod_eq_of_lt hlo]

theorem numHi_bits (hi lo : Int) (n : Int) (h0 : 0 ≤ n) (h128 : n ≤ 128) (l0 : 0 ≤ hi) : ((numHi (bitsTo hi lo n.toNat) : Nat) : Int) = cHi n hi := by
  obtain ⟨n, rfl⟩ := Int.eq_ofNat_of_zero_le h0
  obtain ⟨hi, rfl⟩ := Int.eq_ofNat_of_zero_le l0
  have key : numHi (bitsTo hi lo n) = hi % 2 ^ (n - 64) := by
    refine Nat.eq_of_testBit_eq fun j => ?_
    rw [numHi, valL_testBit, Nat.testBit_mod_two_pow]
    have h := bitsTo_getD hi lo n (64 + j)
    rw [List.getD_eq_getElem?_getD] at h ⊢
    rw [List.getElem?_take, List.getElem?_drop]
    by_cases hj : j < 64
    · rw [if_pos hj, h]
      simp only [bitB, if_neg (show ¬ 64 + j < 64 by omega), Int.toNat_natCast, Nat.add_sub_cancel_left]
      congr 1
      simp; omega
    · rw [if_neg hj]
      simp; omega
  unfold cHi
  rw [show ((n : Int).toNat) = n from rfl, key]
  by_cases h : (n : Int) ≤ 64
  · rw [if_pos h, show n - 64 = 0 by omega]; simp [Nat.mod_one]
  · rw [if_neg h, show ((n : Int) - 64).toNat = n - 64 by omega]; simp

theorem low_bd (n : Int) (h0 : 0 ≤ n) (h1 : n ≤ 64) : 0 ≤ low n ∧ low n < 18446744073709551616 := by
  unfold low
  have h : (2 : Nat) ^ n.toNat ≤ 2 ^ 64 := Nat.pow_le_pow_right (by decide) (by omega)
  have h2 : (0 : Nat) < 2 ^ n.toNat := Nat.pow_pos (by decide)
  have h3 : (2 : Int) ^ n.toNat = ((2 ^ n.toNat : Nat) : Int) := by simp
  rw [h3]
  omega
theorem and_low (n lo : Int) (h0 : 0 ≤ n) (h1 : n ≤ 64) (l0 : 0 ≤ lo) (l1 : lo < 18446744073709551616) : bits .and .u64 lo (low n) = lo % 2 ^ n.toNat := by
  have hb := low_bd n h0 h1
  rw [u64_and lo (low n) l0 l1 hb.1 hb.2]
  obtain ⟨n, rfl⟩ := Int.eq_ofNat_of_zero_le h0
  obtain ⟨lo, rfl⟩ := Int.eq_ofNat_of_zero_le l0
  have e : (low (n : Int)).toNat = 2 ^ n - 1 := by
    unfold low
    have : ((2 : Int) ^ ((n : Int)).toNat - 1) = ((2 ^ n - 1 : Nat) : Int) := by
      rw [Int.ofNat_sub (Nat.one_le_two_pow)]; simp
    rw [this]; rfl
  rw [e, Int.toNat_natCast, Nat.and_two_pow_sub_one_eq_mod]
  simp
theorem wrap_low (n : Int) (h0 : 0 ≤ n) (h1 : n ≤ 64) : IntKind.u64.wrap (IntKind.u64.wrap (2 ^ n.toNat) - 1) = low n := by
  have hb := low_bd n h0 h1
  rw [IntKind.wrap_u64, IntKind.wrap_u64]
  unfold low at hb ⊢
  omega
theorem or_set (x k : Nat) (hx : x < 2 ^ k) (hk : k < 64) : bits .or .u64 (x : Int) (IntKind.u64.wrap (2 ^ k)) = ((x + 2 ^ k : Nat) : Int) := by
  have h1 : (2 : Nat) ^ k < 2 ^ 64 := Nat.pow_lt_pow_right (by decide) hk
  have e : IntKind.u64.wrap (2 ^ k) = ((2 ^ k : Nat) : Int) := by
    rw [IntKind.wrap_u64, show ((2 : Int) ^ k) = ((2 ^ k : Nat) : Int) by simp]
    omega
  rw [e, u64_or_nat x (2 ^ k) (by omega) (by omega)]
  have := nat_join k (2 ^ k) x (Nat.mod_self _) hx
  rw [Nat.or_comm, this, Nat.add_comm]
theorem numLo_take_lt (l : List Bool) (k : Nat) (h : k ≤ 64) : numLo (l.take k) < 2 ^ k := by
  unfold numLo
  rw [List.take_take, Nat.min_eq_right h]
  exact Nat.lt_of_lt_of_le (valL_lt _) (Nat.pow_le_pow_right (by decide) (List.length_take_le _ _))
theorem numHi_take_lt (l : List Bool) (k : Nat) (h : k ≤ 128) : numHi (l.take k) < 2 ^ (k - 64) := by
  unfold numHi
  rw [List.drop_take, List.take_take, Nat.min_eq_right (by omega)]
  exact Nat.lt_of_lt_of_le (valL_lt _) (Nat.pow_le_pow_right (by decide) (List.length_take_le _ _))
theorem lo_set (l : List Bool) (k : Nat) (h : k < l.length) (hb : l[k] = true) (h64 : k < 64) : bits .or .u64 ((numLo (l.take k) : Nat) : Int) (IntKind.u64.wrap (2 ^ k)) = ((numLo (l.take (k + 1)) : Nat) : Int) := by
  rw [or_set _ k (numLo_take_lt l k (by omega)) h64, numLo_take_set l k h h64, hb]; simp
theorem hi_set (l : List Bool) (k : Nat) (h : k < l.length) (hb : l[k] = true) (h64 : 64 ≤ k) (h128 : k < 128) : bits .or .u64 ((numHi (l.take k) : Nat) : Int) (IntKind.u64.wrap (2 ^ (k - 64))) = ((numHi (l.take (k + 1)) : Nat) : Int) := by
  rw [or_set _ (k - 64) (numHi_take_lt l k (by omega)) (by omega), numHi_take_set l k h h64 h128, hb]; simp
theorem and_one (x : Int) (h0 : 0 ≤ x) (h1 : x < 18446744073709551616) : bits .and .u64 x 1 = x % 2 := by
  rw [u64_and x 1 h0 h1 (by decide) (by decide)]
  obtain ⟨x, rfl⟩ := Int.eq_ofNat_of_zero_le h0
  have : (x : Int).toNat &&& (1 : Int).toNat = x % 2 := by simp [Nat.and_one_is_mod]
  rw [this]; simp
theorem bit_at (x : Int) (k : Nat) (h0 : 0 ≤ x) (h1 : x < 18446744073709551616) : (bits .and .u64 (x / 2 ^ k) 1 == 1) = x.toNat.testBit k := by
  obtain ⟨x, rfl⟩ := Int.eq_ofNat_of_zero_le h0
  have e : ((x : Int) / 2 ^ k) = ((x / 2 ^ k : Nat) : Int) := by simp
  have hle : x / 2 ^ k ≤ x := Nat.div_le_self _ _
  rw [e, and_one _ (Int.natCast_nonneg _) (Int.lt_of_le_of_lt (Int.ofNat_le.2 hle) h1)]
  have t : (x / 2 ^ k) % 2 = (x.testBit k).toNat := by rw [Nat.toNat_testBit]
  rw [Int.toNat_natCast]
  cases h : x.testBit k <;> rw [h] at t <;> simp at t <;> simp <;> omega
theorem bit_lo (hi lo : Int) (k : Nat) (hk : (k : Int) < 64) (h0 : 0 ≤ lo) (h1 : lo < 18446744073709551616) : (bits .and .u64 (lo / 2 ^ k) 1 == 1) = bitB hi lo k := by
  rw [bit_at lo k h0 h1, bitB, if_pos (by omega)]
theorem bit_hi (hi lo : Int) (k : Nat) (hk : 64 ≤ (k : Int)) (h0 : 0 ≤ hi) (h1 : hi < 18446744073709551616) : (bits .and .u64 (hi / 2 ^ (k - 64)) 1 == 1) = bitB hi lo k := by
  rw [bit_at hi _ h0 h1, bitB, if_neg (by omega)]
end Go.Proofs.YtlipcmonlhdgfaaGreat
/- The walks of package bits' small functions: widthMayBe, lowest, cut, Of. -/
namespace Go.Proofs.YtlipcmonlhdgfaaGreat
open Go.RowKit

theorem ret_int {k : IntKind} {a b : Int} (h : a = b) : Ending.returned (.int k a) = .returned (.int k b) := by rw [h]

def mayBe (n : Int) : Bool := decide (1 ≤ n) && decide (n ≤ 128)
theorem mayBe_yes {n : Int} (h1 : 1 ≤ n) (h2 : n ≤ 128) : mayBe n = true := by simp [mayBe, h1, h2]
theorem mayBe_no {n : Int} (h : ¬ (1 ≤ n ∧ n ≤ 128)) : mayBe n = false := by simp [mayBe]; omega

theorem widthMayBe_any (n : Int) (w : World) :
    Calls Tryz.prog 134 #[.int .i64 n] w fun e w' => e = .returned (.bool (mayBe n)) ∧ w' = w := by
  by_cases h1 : 1 ≤ n
  · by_cases h2 : n ≤ 128
    · go_enter Tryz.func134, Tryz.ntmps134
      go_wp2
      go_ret
      exact ⟨by rw [mayBe_yes h1 h2]; simp, rfl⟩
    · go_enter Tryz.func134, Tryz.ntmps134
      go_wp2
      go_ret
      exact ⟨by rw [mayBe_no (by omega)]; simp, rfl⟩
  · go_enter Tryz.func134, Tryz.ntmps134
    go_wp2
    go_ret
    exact ⟨by rw [mayBe_no (by omega)]; simp, rfl⟩

theorem lowest_any (n : Int) (w : World) (h0 : 0 ≤ n) (h1 : n ≤ 64) :
    Calls Tryz.prog 154 #[.int .i64 n] w fun e w' => e = .returned (.int .u64 (low n)) ∧ w' = w := by
  have H : Hid (IntKind.u64.wrap (IntKind.u64.wrap (2 ^ n.toNat) - 1) = low n) := wrap_low n h0 h1
  go_enter Tryz.func154, Tryz.ntmps154
  go_wp2
  go_ret
  exact ⟨ret_int H.out, rfl⟩

def bitsV (n hi lo : Int) : Value := .agg #[.int .i64 n, .int .u64 hi, .int .u64 lo]
theorem ret_bits {n a b c d : Int} (h : a = c) (h2 : b = d) : Ending.returned (.agg #[.int .i64 n, .int .u64 a, .int .u64 b]) = .returned (.agg #[.int .i64 n, .int .u64 c, .int .u64 d]) := by rw [h, h2]

theorem cut_any (n hi lo : Int) (w : World) (h0 : 1 ≤ n) (h1 : n ≤ 128) (a0 : 0 ≤ hi) (a1 : hi < 18446744073709551616) (b0 : 0 ≤ lo) (b1 : lo < 18446744073709551616) :
    Calls Tryz.prog 135 #[.int .i64 n, .int .u64 hi, .int .u64 lo] w fun e w' =>
      e = .returned (.agg #[.int .i64 n, .int .u64 (cHi n hi), .int .u64 (cLo n lo)]) ∧ Below w.heap.size w w' := by
  by_cases h : n ≤ 64
  · go_enter Tryz.func135, Tryz.ntmps135
    go_wp2_with (go_at_call 154; refine (lowest_any _ _ (by omega) (by omega)).mono ?_; rintro e w' ⟨rfl, rfl⟩)
    refine bodyPost_ret (v := .agg #[.int .i64 n, .int .u64 0, .int .u64 (bits .and .u64 lo (low n))]) (by simp [results, Tryz.results135, go_sem]) rfl ⟨ret_bits (cHi_le h).symm (by rw [and_low n lo (by omega) h b0 b1, cLo_le h]), ?_⟩
    exact (Below.refl _ _).alloc (Nat.le_refl _) _
  · go_enter Tryz.func135, Tryz.ntmps135
    go_wp2_with (go_at_call 154; refine (lowest_any _ _ (by omega) (by omega)).mono ?_; rintro e w' ⟨rfl, rfl⟩)
    refine bodyPost_ret (v := .agg #[.int .i64 n, .int .u64 (bits .and .u64 hi (low (n - 64))), .int .u64 lo]) (by simp [results, Tryz.results135, go_sem]) rfl ⟨ret_bits (by rw [and_low (n - 64) hi (by omega) (by omega) a0 a1, cHi_gt (by omega)]) (cLo_gt (by omega)).symm, ?_⟩
    exact (Below.refl _ _).alloc (Nat.le_refl _) _
end Go.Proofs.YtlipcmonlhdgfaaGreat
/- The walks of bits.Of and bits.Check. -/
namespace Go.Proofs.YtlipcmonlhdgfaaGreat
open Go.RowKit

theorem bcell {W w1 : World} (hb : Below W.heap.size W w1) : (∀ b o, b < W.heap.size → w1.cell? ⟨b, o, none⟩ = W.cell? ⟨b, o, none⟩) ∧ (∀ b o, b < W.heap.size → w1.frozen? ⟨b, o, none⟩ = W.frozen? ⟨b, o, none⟩) :=
  ⟨fun b o h => hb.cell (p := ⟨b, o, none⟩) h, fun b o h => hb.frozen (p := ⟨b, o, none⟩) h⟩

theorem of_no (n hi lo : Int) (w : World) (h : ¬ (1 ≤ n ∧ n ≤ 128)) :
    Calls Tryz.prog 192 #[.int .i64 n, .int .u64 hi, .int .u64 lo] w fun e w' =>
      e = .returned (.tuple #[.agg #[.int .i64 0, .int .u64 0, .int .u64 0], .int .i64 1]) ∧ Below w.heap.size w w' := by
  have hm := mayBe_no h
  clear h
  go_enter Tryz.func192, Tryz.ntmps192
  go_wp2_with (go_at_call 134; refine (widthMayBe_any _ _).mono ?_; rintro e w' ⟨rfl, rfl⟩)
  refine bodyPost_ret (v := .tuple #[.agg #[.int .i64 0, .int .u64 0, .int .u64 0], .int .i64 1]) (by simp [results, Tryz.results192, go_sem]) rfl ⟨rfl, ?_⟩
  exact (Below.refl _ _).alloc (Nat.le_refl _) _

theorem of_yes (n hi lo : Int) (w : World) (h0 : 1 ≤ n) (h1 : n ≤ 128) (a0 : 0 ≤ hi) (a1 : hi < 18446744073709551616) (b0 : 0 ≤ lo) (b1 : lo < 18446744073709551616) :
    Calls Tryz.prog 192 #[.int .i64 n, .int .u64 hi, .int .u64 lo] w fun e w' =>
      e = .returned (.tuple #[.agg #[.int .i64 n, .int .u64 (cHi n hi), .int .u64 (cLo n lo)], .int .i64 0]) ∧ Below w.heap.size w w' := by
  have hm := mayBe_yes h0 h1
  go_enter Tryz.func192, Tryz.ntmps192
  go_wp2_with (first
    | (go_at_call 134; refine (widthMayBe_any _ _).mono ?_; rintro e w' ⟨rfl, rfl⟩)
    | (go_at_call 135; refine (cut_any n hi lo _ h0 h1 a0 a1 b0 b1).mono ?_; rintro e w1 ⟨rfl, hb⟩; obtain ⟨hc, hf⟩ := bcell hb; have hz : w.heap.size < w1.heap.size := by have := hb.size; simp at this; omega))
  refine bodyPost_ret (v := .tuple #[.agg #[.int .i64 n, .int .u64 (cHi n hi), .int .u64 (cLo n lo)], .int .i64 0]) (by simp [results, Tryz.results192, go_sem, hc]) rfl ⟨rfl, ?_⟩
  exact (((((Below.refl _ _).alloc (Nat.le_refl _) _).trans (hb.mono (by simp))).setCell (Nat.le_refl _) _).setCell (Nat.le_refl _) _).setCell (Nat.le_refl _) _

theorem hold3 {B : Nat} {w0 W w1 : World} {b : Nat} {x y z : Value} {o1 o2 o3 : Nat} (hb : Below W.heap.size W w1) (hS : W.cell? ⟨b, o1, none⟩ = some x ∧ W.cell? ⟨b, o2, none⟩ = some y ∧ W.cell? ⟨b, o3, none⟩ = some z ∧ Below B w0 W) (hB : B ≤ w0.heap.size) :
    w1.cell? ⟨b, o1, none⟩ = some x ∧ w1.cell? ⟨b, o2, none⟩ = some y ∧ w1.cell? ⟨b, o3, none⟩ = some z ∧ Below B w0 w1 := by
  obtain ⟨h1, h2, h3, h⟩ := hS
  have hlt : b < W.heap.size := by have := World.block_lt_of_cell? W _ h1; exact this
  have hz := h.size
  exact ⟨(hb.cell hlt).trans h1, (hb.cell hlt).trans h2, (hb.cell hlt).trans h3, h.trans (hb.mono (by omega))⟩

def okB (n hi lo : Int) : Bool := mayBe n && (cHi n hi == hi && cLo n lo == lo)

set_option maxHeartbeats 1000000 in
theorem check_may (n hi lo : Int) (w : World) (h0 : 1 ≤ n) (h1 : n ≤ 128) (a0 : 0 ≤ hi) (a1 : hi < 18446744073709551616) (b0 : 0 ≤ lo) (b1 : lo < 18446744073709551616) :
    Calls Tryz.prog 108 #[.agg #[.int .i64 n, .int .u64 hi, .int .u64 lo]] w fun e w' =>
      e = .returned (.bool (cHi n hi == hi && cLo n lo == lo)) ∧ Below w.heap.size w w' := by
  have hm := mayBe_yes h0 h1
  cases e1 : (cHi n hi == hi) <;> cases e2 : (cLo n lo == lo)
  all_goals
    go_enter Tryz.func108, Tryz.ntmps108
    go_wp2
    go_region_held3 (fun w' => w'.cell? ⟨w.heap.size, 0, none⟩ = some (.int .i64 n) ∧ w'.cell? ⟨w.heap.size, 1, none⟩ = some (.int .u64 hi) ∧ w'.cell? ⟨w.heap.size, 2, none⟩ = some (.int .u64 lo) ∧ Below (w.heap.size + 1) (w.alloc (.cells #[.int .i64 n, .int .u64 hi, .int .u64 lo] 56)) w') (first | exact hold3 (by assumption) (by assumption) (by simp) | (refine ⟨?_, ?_, ?_, ?_⟩ <;> first | exact (Below.refl _ _).drew | simp [go_sem]))
      (first
        | (go_at_call 134; refine (widthMayBe_any _ _).mono ?_; rintro e w' ⟨rfl, rfl⟩)
        | (go_at_call 135; refine (cut_any n hi lo _ h0 h1 a0 a1 b0 b1).mono ?_; rintro e w1 ⟨rfl, hb⟩))
  all_goals (go_wp2; go_ret; exact ⟨rfl, (((Below.refl _ _).alloc (Nat.le_refl _) _).drew).trans (hb.mono (by simp))⟩)

end Go.Proofs.YtlipcmonlhdgfaaGreat
/- The walk of bits.Check (laid by Ofs here). -/
namespace Go.Proofs.YtlipcmonlhdgfaaGreat
open Go.RowKit
theorem widthMayBe_no (n : Int) (w : World) (h : mayBe n = false) :
    Calls Tryz.prog 134 #[.int .i64 n] w fun e w' => e = .returned (.bool false) ∧ w' = w := by
  have := widthMayBe_any n w
  rw [h] at this
  exact this

theorem check_not (n hi lo : Int) (w : World) (h : ¬ (1 ≤ n ∧ n ≤ 128)) :
    Calls Tryz.prog 108 #[.agg #[.int .i64 n, .int .u64 hi, .int .u64 lo]] w fun e w' =>
      e = .returned (.bool false) ∧ Below w.heap.size w w' := by
  have hm := mayBe_no h
  clear h
  go_enter Tryz.func108, Tryz.ntmps108
  go_wp2
  go_quiet ((go_at_call 134; exact Calls.quiet_of_same (widthMayBe_no _ _ hm)))
  go_wp2
  go_ret
  exact ⟨rfl, below_drewN ((Below.refl _ _).alloc (Nat.le_refl _) _) _⟩

theorem check_any (n hi lo : Int) (w : World) (a0 : 0 ≤ hi) (a1 : hi < 18446744073709551616) (b0 : 0 ≤ lo) (b1 : lo < 18446744073709551616) :
    Calls Tryz.prog 108 #[.agg #[.int .i64 n, .int .u64 hi, .int .u64 lo]] w fun e w' =>
      e = .returned (.bool (okB n hi lo)) ∧ Below w.heap.size w w' := by
  by_cases h : 1 ≤ n ∧ n ≤ 128
  · have e : okB n hi lo = (cHi n hi == hi && cLo n lo == lo) := by unfold okB; rw [mayBe_yes h.1 h.2]; rfl
    rw [e]
    exact check_may n hi lo w h.1 h.2 a0 a1 b0 b1
  · have e : okB n hi lo = false := by unfold okB; rw [mayBe_no h]; rfl
    rw [e]
    exact check_not n hi lo w h
end Go.Proofs.YtlipcmonlhdgfaaGreat
/- The walk of bits.Check (laid by Chk here). -/
