/- Words of a text, as a function; rows of words. -/
import Derived.Test.YtfanhdjebmdniaaGreatDoorLK
import Derived.Maps.AppendAt
namespace Go.Proofs.YtfanhdjebmdniaaGreatDoor
open Go.RowKit

abbrev LR := Except Nat (List (Wd × Nat))
def LR.app (a : List (Wd × Nat)) : LR → LR
  | .error k => .error k
  | .ok ws => .ok (a ++ ws)
theorem LR.app_nil (x : LR) : LR.app [] x = x := by cases x <;> rfl
theorem LR.app_app (a b : List (Wd × Nat)) (x : LR) : LR.app a (LR.app b x) = LR.app (a ++ b) x := by
  cases x with
  | error k => rfl
  | ok ws => simp [LR.app]
theorem takeW_split (P : UInt8 → Bool) (l : List UInt8) : (l.takeWhile P).length + (l.dropWhile P).length = l.length := by
  have h := congrArg List.length (List.takeWhile_append_dropWhile (p := P) (l := l))
  rw [List.length_append] at h; exact h
/- a word eats something. -/
theorem wdA_less {r r' : List UInt8} {x : Wd} (h : wdA r = (some x, r')) : r'.length < r.length := by
  unfold wdA at h
  have hs := takeW_split isW r
  cases hr : r.takeWhile isW with
  | nil =>
    rw [hr] at h hs
    simp only [wd1, Prod.mk.injEq] at h
    have hl := sgn_pre (r.dropWhile isW)
    obtain ⟨h1, h2⟩ := h
    have hne : sgn (r.dropWhile isW) ≠ [] := fun e => by rw [e] at h1; simp [signW] at h1
    have hpos : 0 < (sgn (r.dropWhile isW)).length := List.length_pos_iff.2 hne
    rw [← h2, List.length_drop]
    simp at hs
    omega
  | cons c l =>
    rw [hr] at h hs
    have e2 : r' = r.dropWhile isW := by
      unfold wd1 at h
      simp only at h
      split at h
      · split at h
        · exact (Prod.mk.inj h).2.symm
        · exact (Prod.mk.inj h).2.symm
      · exact (Prod.mk.inj h).2.symm
    rw [e2]
    simp at hs
    omega
def tkF : Nat → List UInt8 → Nat → LR
  | 0, _, _ => .ok []
  | f + 1, r, n => if r = [] then .ok [] else match wdA r with
    | (none, _) => .error n
    | (some x, r') => LR.app [(x, n)] (tkF f (skip r') (n + c10 r' - c10 (skip r')))
theorem tkF_any : ∀ (f g : Nat) (r : List UInt8) (n : Nat), r.length < f → r.length < g → tkF f r n = tkF g r n
  | 0, _, _, _, h, _ => by omega
  | _, 0, _, _, _, h => by omega
  | f + 1, g + 1, r, n, h1, h2 => by
    rw [tkF, tkF]
    split
    · rfl
    · split
      · rfl
      · rename_i x r' h
        have hl := Nat.lt_of_le_of_lt (skip_le r') (wdA_less h)
        rw [tkF_any f g (skip r') _ (by omega) (by omega)]
def tk (r : List UInt8) (n : Nat) : LR := tkF (r.length + 1) r n
theorem tk_nil (n : Nat) : tk [] n = .ok [] := by rw [tk, tkF]; simp
theorem tk_none {r r' : List UInt8} {n : Nat} (h0 : r ≠ []) (h : wdA r = (none, r')) : tk r n = .error n := by
  rw [tk, tkF, if_neg h0, h]
theorem tk_some {r r' : List UInt8} {n : Nat} {x : Wd} (h0 : r ≠ []) (h : wdA r = (some x, r')) : tk r n = LR.app [(x, n)] (tk (skip r') (n + c10 r' - c10 (skip r'))) := by
  rw [tk, tkF, if_neg h0, h]
  have hl := Nat.lt_of_le_of_lt (skip_le r') (wdA_less h)
  simp only
  rw [tk, tkF_any r.length ((skip r').length + 1) (skip r') _ hl (by omega)]
def toks (s : List UInt8) : LR := tk (skip s) (c10 s - c10 (skip s))
/- rows of words. -/
def wcl (x : Wd × Nat) : List Value := [.int .u8 (x.1.k : Int), .string (txt x.1.s), .int .i64 (x.1.w : Int), .int .u64 (wHi x.1.v), .int .u64 (wLo x.1.v), .int .i64 (x.2 : Int)]
def wcs (xs : List (Wd × Nat)) : List Value := (xs.map wcl).flatten
theorem wcs_snoc (xs : List (Wd × Nat)) (x : Wd × Nat) : wcs (xs ++ [x]) = wcs xs ++ wcl x := by simp [wcs]
def OwnW (W : World) (B : Nat) (v : Value) (xs : List (Wd × Nat)) : Prop := W.ownsRow B 68 6 v xs.length (wcs xs)
theorem OwnW.nil (W : World) (B : Nat) : OwnW W B (.slice none 0 0) [] := ⟨rfl, .inl ⟨rfl, rfl⟩⟩
theorem OwnW.fr {W W' : World} {B p : Nat} {v : Value} {xs : List (Wd × Nat)} (h : OwnW W B v xs) (hf : FrP p W W') (hp : p < B) : OwnW W' B v xs := by
  obtain ⟨hl, h0 | ⟨g, cap, cur, hv, hb, hh, r⟩⟩ := h
  · exact ⟨hl, .inl h0⟩
  · exact ⟨hl, .inr ⟨g, cap, cur, hv, hb, (hf.block g (Array.getElem?_eq_some_iff.1 hh).1 (by omega)).trans hh, r⟩⟩
theorem OwnW.alloc {W : World} {B : Nat} {v : Value} {xs : List (Wd × Nat)} (h : OwnW W B v xs) (o : Obj) : OwnW (W.alloc o) B v xs := by
  obtain ⟨hl, h0 | ⟨g, cap, cur, hv, hb, hh, r⟩⟩ := h
  · exact ⟨hl, .inl h0⟩
  · exact ⟨hl, .inr ⟨g, cap, cur, hv, hb, (hao W o g (Array.getElem?_eq_some_iff.1 hh).1).trans hh, r⟩⟩
theorem OwnW.lower {W : World} {B B' : Nat} {v : Value} {xs : List (Wd × Nat)} (h : OwnW W B v xs) (hB : B' ≤ B) : OwnW W B' v xs := by
  obtain ⟨hl, h0 | ⟨g, cap, cur, hv, hb, hh, r⟩⟩ := h
  · exact ⟨hl, .inl h0⟩
  · exact ⟨hl, .inr ⟨g, cap, cur, hv, by omega, hh, r⟩⟩
theorem OwnW.block {W : World} {B : Nat} {v : Value} {xs : List (Wd × Nat)} (h : OwnW W B v xs) {g : Nat} (hg : v.ownBlock = some g) : B ≤ g ∧ g < W.heap.size := by
  obtain ⟨hl, ⟨rfl, _⟩ | ⟨g', cap, cur, rfl, hb, hh, r⟩⟩ := h
  · cases hg
  · cases hg; exact ⟨hb, (Array.getElem?_eq_some_iff.1 hh).1⟩
theorem infoW : (Tryz.prog.info? 68).map (fun i => (i.zero, i.size, i.bytes)) = some (some (.agg z6), 6, 56) := by kernel_rfl
theorem cells_new6 (w : World) (cs : List Value) (t : TypeId) : ∀ j u, cs[j]? = some u → (w.alloc (.cells cs.toArray t)).cell? ((⟨w.heap.size, 0, none⟩ : Addr).add j) = some u := by
  intro j u hj
  have e : (⟨w.heap.size, 0, none⟩ : Addr).add j = ⟨w.heap.size, j, none⟩ := by rw [Addr.add_mid, Nat.zero_add]
  rw [e, World.cell?_alloc_new]
  simpa using hj
end Go.Proofs.YtfanhdjebmdniaaGreatDoor
