/- Pieces of the proof: InRound, JCl, JFm. -/
import Derived.Test.YtpgkohimcofjnaaGreatDoorM11
import Derived.Test.YtpgkohimcofjnaaGreatDoorM1
import Derived.RegionTactic
import Derived.Deep.RegionLaw
import Derived.Test.YtpgkohimcofjnaaGreatDoorM14
/- A drawn region without a defer, inside a round: walked as outside it. -/
namespace Go.Proofs.YtpgkohimcofjnaaGreatDoor
open Go.RowKit Go.Shelf

def noDefer (ops : Array Oper) : Bool := ops.all (fun o => match o.op with | .defer _ => false | _ => true)
theorem noDefer_at {ops : Array Oper} (h : noDefer ops = true) {i : Nat} {o : Oper} (hi : ops[i]? = some o) (c : _) : o.op ≠ .defer c := by
  intro e
  obtain ⟨hlt, rfl⟩ := Array.getElem?_eq_some_iff.1 hi
  have := (Array.all_eq_true.1 h) i hlt
  rw [e] at this
  cases this
theorem uponIn_round (F : Fence) (l n : Nat) (P : Program) (o : Oper) (a : Act) (K : Act → World → Prop) (Q : Exit → Act → World → Prop) (r : Result Next) (h : o.uponIn F n P a K Q r) : o.uponIn (F.inRound l) n P a K Q r := by
  cases r with
  | ok x w => cases x <;> exact h
  | halt x w => cases x <;> exact h
theorem wpOpIn_round {F : Fence} {n : Nat} {P : Program} {ops : Array Oper} {Q : Exit → Act → World → Prop} (l : Nat) (hd : noDefer ops = true) {i : Nat} {K : Act → World → Prop} {a : Act} {w : World} (h : wpOpIn F n P ops Q i K a w) : wpOpIn (F.inRound l) n P ops Q i K a w := by
  unfold wpOpIn at h ⊢
  cases hi : ops[i]? with
  | none => rw [hi] at h; exact h
  | some o =>
    rw [hi] at h
    simp only at h ⊢
    split
    · rename_i hw
      rw [if_pos hw] at h
      refine ⟨h.1, ?_⟩
      have h2 := h.2
      rw [Oper.semAt_eq _ _ _ (noDefer_at hd hi)] at h2 ⊢
      exact uponIn_round F l n P o a K Q _ h2
    · rename_i hw
      rw [if_neg hw] at h
      exact h
theorem wpAnyIn_round {F : Fence} {n : Nat} {P : Program} {md : Region.Mode} {ops : Array Oper} {Q : Exit → Act → World → Prop} (l : Nat) (hd : noDefer ops = true) :
    ∀ (fuel : Nat) (listed : Array Bool) (a : Act) (w : World), wpAnyIn F n P md ops Q fuel listed a w → wpAnyIn (F.inRound l) n P md ops Q fuel listed a w := by
  intro fuel
  induction fuel with
  | zero => intro listed a w h; exact h
  | succ fuel ih =>
    intro listed a w h
    exact ⟨h.1, fun i hi => wpOpIn_round l hd (wpOpIn_mono (fun a w h => ih _ a w h) (h.2 i hi))⟩
theorem wpIn_region_round {F : Fence} {n : Nat} {P : Program} {ops : Array Oper} {Q : Exit → Act → World → Prop} {id l : Nat} {a : Act} {w : World} (hm : P.follows .mixedOrders = true) (hd : noDefer ops = true)
    (h : wpAnyIn F n P .any ops Q ops.size (Array.replicate ops.size false) a w.drew) : (Code.region id ops true).wpIn (F.inRound l) n P Q a w :=
  wpIn_region_any hm (wpAnyIn_round l hd _ _ _ _ h)
end Go.Proofs.YtpgkohimcofjnaaGreatDoor
/- slices.Clone of bytes. -/
namespace Go.Proofs.YtpgkohimcofjnaaGreatDoor
open Go.RowKit

theorem clone_any (a : Option Addr) (cap : Nat) (xs : List Nat) (w : World) (hl : xs.length ≤ 100000000) (hr : RdA w a xs) (hn : a = none → cap = 0) :
    Calls Tryz.prog 13 #[.slice a xs.length cap] w fun e w' => ∃ u, e = .returned u ∧ Own8 w' w.heap.size u xs ∧ Below w.heap.size w w' := by
  cases a with
  | none =>
    obtain rfl : xs = [] := by
      rcases hr with h | ⟨p, off, e, _⟩
      · exact h
      · cases e
    obtain rfl := hn rfl
    have hnil : ∀ W, (binOp .eql 22 (.slice none 0 0) (.slice none 0 0)).run Tryz.prog W = .ok (.bool true) W := fun W => Lib.run_eql_slice_nil W 22 5 _ _ _ _ _ Tryz.underlying22
    rw [List.length_nil]
    go_enter Tryz.func13, Tryz.ntmps13
    go_wp2
    go_ret
    exact ⟨_, rfl, Own8.nil _ _, Below.refl _ _⟩
  | some q =>
    have HR := hide (RdA.below hr ((Below.refl _ w).alloc (Nat.le_refl _) (.cells #[] 5)))
    have hnil : ∀ W, (binOp .eql 22 (.slice (some q) xs.length cap) (.slice none 0 0)).run Tryz.prog W = .ok (.bool false) W := fun W => Lib.run_eql_slice_nil W 22 5 _ _ _ _ _ Tryz.underlying22
    have HO : Hid (Own8 (w.alloc (.cells #[] 5)) w.heap.size (.slice (some ⟨w.heap.size, 0, none⟩) 0 0) []) := World.ownsRow_made w #[] 0 (Nat.le_refl _) (by decide) rfl
    clear hr hn
    go_enter Tryz.func13, Tryz.ntmps13
    go_wp2_with (first
      | (at_builtin; refine wpList_app8 rfl _ _ rfl w.heap.size _ [] rfl HO.out (some q) xs.length cap xs rfl rfl HR.out (by simp) (by simp; omega) (by simp) ?_; intro v7 w7 O7 G7 K7; have OO7 := hide O7; have B7 := hide (below_own ((Below.refl _ w).alloc (Nat.le_refl _) _) HO.out G7 (by simp)); clear O7 G7 K7))
    go_ret
    exact ⟨v7, rfl, OO7.out, B7.out⟩
end Go.Proofs.YtpgkohimcofjnaaGreatDoor
/- Records as they lie in memory, of one's own. -/
namespace Go.Proofs.YtpgkohimcofjnaaGreatDoor
open Go.RowKit Go.Shelf

theorem Tryz.infoB : (Tryz.prog.info? 22).map (fun i => (i.zero, i.size, i.bytes)) = some (some (.slice none 0 0), 1, 24) := by kernel_rfl
def OwnL (W : World) (B : Nat) (v : Value) (vs : List Value) : Prop := W.ownsRow B 22 1 v vs.length vs
structure Recs (W : World) (B : Nat) (v : Value) (vs : List Value) (rs : List (List Nat)) : Prop where
  own : OwnL W B v vs
  len : vs.length = rs.length
  rec' : ∀ i (h : i < vs.length) (h' : i < rs.length), Own8 W B vs[i] rs[i]
  far : ∀ u ∈ vs, ∀ b, u.ownBlock = some b → v.ownBlock ≠ some b
  dis : vs.Pairwise (fun x y => ∀ k, x.ownBlock = some k → y.ownBlock ≠ some k)
theorem Recs.nil (W : World) (B : Nat) : Recs W B (.slice none 0 0) [] [] :=
  ⟨World.ownsRow_nil W B _ _, rfl, fun i h => absurd h (by simp), fun u h => absurd h (by simp), List.Pairwise.nil⟩
theorem OwnL.below {W W' : World} {B : Nat} {v : Value} {xs : List Value} (h : OwnL W B v xs) (hb : Below W.heap.size W W') : OwnL W' B v xs := by
  refine ⟨h.1, ?_⟩
  rcases h.2 with h0 | ⟨gr, cap, cur, rfl, hg, hcur, rest⟩
  · exact .inl h0
  · exact .inr ⟨gr, cap, cur, rfl, hg, (hb.block _ (Array.getElem?_eq_some_iff.1 hcur).1).trans hcur, rest⟩
theorem OwnL.kept {W W' : World} {B : Nat} {v : Value} {xs : List Value} {row : Option Nat} (h : OwnL W B v xs) (hg : W.grownBy W' row) (hne : v.ownBlock = none ∨ v.ownBlock ≠ row) : OwnL W' B v xs := World.ownsRow.kept h hg hne
theorem Recs.below {W W' : World} {B : Nat} {v : Value} {vs : List Value} {rs : List (List Nat)} (h : Recs W B v vs rs) (hb : Below W.heap.size W W') : Recs W' B v vs rs :=
  ⟨h.own.below hb, h.len, fun i h1 h2 => (h.rec' i h1 h2).below hb, h.far, h.dis⟩
theorem own_cells {W : World} {B n : Nat} {e : TypeId} {v : Value} {xs : List Value} {b : Nat} (h : W.ownsRow B e 1 v n xs) (hb : v.ownBlock = some b) : ∃ o : Obj, W.heap[b]? = some o ∧ o.isCells = true := by
  rcases h.2 with ⟨rfl, _⟩ | ⟨gr, cap, cur, rfl, hg, hcur, _⟩
  · cases hb
  · have : gr = b := by injection hb
    subst this
    exact ⟨_, hcur, rfl⟩
theorem Recs.keep {W W' : World} {B : Nat} {v : Value} {vs : List Value} {rs : List (List Nat)} {row : Option Nat} (h : Recs W B v vs rs) (hg : W.grownBy W' row) (h1 : ∀ b, v.ownBlock = some b → row ≠ some b) (h2 : ∀ u ∈ vs, ∀ b, u.ownBlock = some b → row ≠ some b) : Recs W' B v vs rs := by
  refine ⟨h.own.kept hg ?_, h.len, fun i k1 k2 => (h.rec' i k1 k2).kept hg ?_, h.far, h.dis⟩
  · cases hv : v.ownBlock with
    | none => exact .inl rfl
    | some b => exact .inr (fun e => h1 b hv e.symm)
  · cases hv : vs[i].ownBlock with
    | none => exact .inl rfl
    | some b => exact .inr (fun e => h2 _ (List.getElem_mem k1) b hv e.symm)
theorem Recs.kept {W W' : World} {B : Nat} {v : Value} {vs : List Value} {rs : List (List Nat)} {row : Option Nat} (h : Recs W B v vs rs) (hg : W.grownBy W' row) (hr : ∀ r, row = some r → ∃ o : Obj, W.heap[r]? = some o ∧ o.isCells = false) : Recs W' B v vs rs := by
  refine h.keep hg (fun b hb e => ?_) (fun u hu b hb e => ?_)
  · obtain ⟨o, ho, hc⟩ := own_cells h.own hb
    obtain ⟨o', ho', hc'⟩ := hr b e
    rw [ho] at ho'; cases ho'; rw [hc] at hc'; cases hc'
  · obtain ⟨i, hi, rfl⟩ := List.getElem_of_mem hu
    obtain ⟨o, ho, hc⟩ := own_cells (h.rec' i hi (by rw [← h.len]; exact hi)) hb
    obtain ⟨o', ho', hc'⟩ := hr b e
    rw [ho] at ho'; cases ho'; rw [hc] at hc'; cases hc'
theorem Recs.aside {W : World} {B : Nat} {v : Value} {vs : List Value} {rs : List (List Nat)} (h : Recs W B v vs rs) (p : Addr) (u : Value) (hp : p.block < B) : Recs (W.setCell p u) B v vs rs := by
  have hg : W.grownBy (W.setCell p u) (some p.block) := ⟨rfl, rfl, rfl, by simp, fun k _ hk => Below.heap_setCell _ _ _ _ (fun e => hk (by rw [e]))⟩
  refine h.keep hg (fun b hb e => ?_) (fun u hu b hb e => ?_)
  · have := (World.ownsRow.lt h.own b hb).1
    injection e with e
    omega
  · obtain ⟨i, hi, rfl⟩ := List.getElem_of_mem hu
    have := (World.ownsRow.lt (h.rec' i hi (by rw [← h.len]; exact hi)) b hb).1
    injection e with e
    omega
theorem Recs.lt {W : World} {B : Nat} {v : Value} {vs : List Value} {rs : List (List Nat)} (h : Recs W B v vs rs) : (∀ b, v.ownBlock = some b → B ≤ b ∧ b < W.heap.size) ∧ ∀ u ∈ vs, ∀ b, u.ownBlock = some b → B ≤ b ∧ b < W.heap.size :=
  ⟨World.ownsRow.lt h.own, fun u hu b hb => by
    obtain ⟨i, hi, rfl⟩ := List.getElem_of_mem hu
    exact World.ownsRow.lt (h.rec' i hi (by rw [← h.len]; exact hi)) b hb⟩
/- One more record, a copy that was made in world W1, appended in world W2. -/
theorem Recs.snoc {W W1 W2 W3 : World} {B : Nat} {v v' u : Value} {vs : List Value} {rs : List (List Nat)} {r : List Nat} (h : Recs W B v vs rs) (hB : B ≤ W.heap.size) (hu : Own8 W1 W.heap.size u r) (h1 : Below W.heap.size W W1) (h2 : Below W1.heap.size W1 W2)
    (ho : OwnL W3 B v' (vs ++ [u])) (hg : W2.grownBy W3 v.ownBlock) (hv : v'.ownBlock = v.ownBlock ∨ v'.ownBlock = some W2.heap.size) : Recs W3 B v' (vs ++ [u]) (rs ++ [r]) := by
  have hW2 : Below W.heap.size W W2 := h1.trans (h2.mono h1.size)
  have k := h.below hW2
  have hlt := h.lt
  have hu2 := hu.below h2
  have ul : ∀ b, u.ownBlock = some b → W.heap.size ≤ b ∧ b < W2.heap.size := World.ownsRow.lt hu2
  have kin : ∀ b, v'.ownBlock = some b → v.ownBlock = some b ∨ b = W2.heap.size := fun b hb => by
    rcases hv with e | e
    · exact .inl (by rw [← e]; exact hb)
    · rw [e] at hb; injection hb with hb; exact .inr hb.symm
  refine ⟨ho, by simp [h.len], fun i i1 i2 => ?_, fun x hx b hb e => ?_, ?_⟩
  · by_cases hi : i < vs.length
    · rw [List.getElem_append_left hi, List.getElem_append_left (by rw [← h.len]; exact hi)]
      refine (k.rec' i hi (by rw [← h.len]; exact hi)).kept hg ?_
      cases hvb : vs[i].ownBlock with
      | none => exact .inl rfl
      | some b => exact .inr (fun e => h.far _ (List.getElem_mem hi) b hvb e.symm)
    · have hi2 : i = vs.length := by simp at i1; omega
      subst hi2
      have e1 : (vs ++ [u])[vs.length] = u := by simp
      have e2 : (rs ++ [r])[vs.length] = r := by simp [h.len]
      rw [e1, e2]
      have := hu2.kept hg (by
        cases hvb : u.ownBlock with
        | none => exact .inl rfl
        | some b => exact .inr (fun e => by
          have h3 := (ul b hvb).1
          have h4 := (hlt.1 b e.symm).2
          omega))
      exact ⟨this.1, by
        rcases this.2 with h0 | ⟨gr, cap, cur, rfl, hgr, rest⟩
        · exact .inl h0
        · exact .inr ⟨gr, cap, cur, rfl, Nat.le_trans hB hgr, rest⟩⟩
  · rcases List.mem_append.1 hx with hx | hx
    · rcases kin b e with e | e
      · exact h.far x hx b hb e
      · have := (hlt.2 x hx b hb).2
        have := hW2.size
        omega
    · obtain rfl := List.mem_singleton.1 hx
      have h3 := ul b hb
      rcases kin b e with e | e
      · have := (hlt.1 b e).2; omega
      · omega
  · rw [List.pairwise_append]
    refine ⟨h.dis, List.pairwise_singleton _ _, fun x hx y hy k hk e => ?_⟩
    obtain rfl := List.mem_singleton.1 hy
    have := (hlt.2 x hx k hk).2
    have := (ul k e).1
    omega
/- append of one value to a list of one's own, in a region that draws its order inside a round. -/
theorem stepIn_appR {n : Nat} {ops : Array Oper} {o : Oper} {a : Act} {w : World} {K : Act → World → Prop} {Q : Exit → Act → World → Prop} {E : Prop}
    (hg : o.guard = none) (s x : Operand) (hop : o.op = Op.call { callee := Callee.builtin Builtin.append, args := #[s, x], argTypes := #[24, 24] })
    (B : Nat) (v : Value) (vs : List Value) (hs : a.eval s = v) (hown : OwnL w B v vs) (q : Addr) (u : Value) (hx : a.eval x = .slice (some q) 1 1) (hc : w.cell? q = some u) (hq : q.spot = none) (hu : u.oneCell' = true)
    (hl : vs.length ≤ 1000000000) (hB : B ≤ w.heap.size)
    (hK : ∀ v' w', OwnL w' B v' (vs ++ [u]) → w.grownBy w' v.ownBlock → (v'.ownBlock = v.ownBlock ∨ v'.ownBlock = some w.heap.size) → K (a.put o.dst v') w') :
    if Region.wanted o (yielded ops a.tmps) = true then Oper.wpIn Fence.wide n Tryz.prog o a w K Q else E := by
  have hw : Region.wanted o (yielded ops a.tmps) = true := by simp [Region.wanted, hg]
  rw [if_pos hw]
  obtain ⟨i0, hi0, hz0, hz1, hz2⟩ := info_parts Tryz.infoB
  obtain ⟨v', w', hrun, r1, r2, _, r4⟩ := run_append_own_at (P := Tryz.prog) w B 24 o.type 22 i0 (.slice none 0 0) 1 24 Tryz.underlying24 hi0 hz0 hz1 hz2 rfl (by decide) v vs.length vs hown q 1 1 [u] rfl (fun j y hj => by
    cases j with
    | zero =>
      have e : q.add 0 = q := by obtain ⟨b, o', sp⟩ := q; cases sp with | none => rw [add8]; rfl | some _ => cases hq
      have : u = y := by simpa using hj
      rw [e, ← this]; exact hc
    | succ j => simp at hj) (fun y hy => by rw [List.mem_singleton.1 hy]; exact hu) (by unfold maxLen; omega) (by omega) hB
  have hK2 := hK v' w' (by unfold OwnL; rw [List.length_append]; exact r1) r2 r4
  refine ⟨fun _ _ => trivial, ?_⟩
  rw [show Fence.wide.round = none from rfl, Oper.semAt_none]
  simp [execOp, hop, resolve, invoke, builtin, hs, hx, hrun, Result.andThen]
  exact hK2
end Go.Proofs.YtpgkohimcofjnaaGreatDoor
