/- Pieces of the proof: PLc, LP, LGd, LYm, LAm. -/
import Derived.Test.YtcfopkaomknmjaaGreatDoorM35
import Derived.Test.YtcfopkaomknmjaaGreatDoorM18
/- Readers look no further than they go: statements, declarations, programs. -/
namespace Go.Proofs.YtcfopkaomknmjaaGreatDoor
open Go.RowKit

theorem lc_then {β : Type} {S : β → β → Prop} {L L' : List (Wd × Nat)} {k0 : Nat} (hE : Le L) {ls : List (List UInt8)} {f f' : Pf β} (hf : Lc S L L' k0 f f') (hl : ∀ l ∈ ls, l ≠ [] := by simp) : Lc S L L' k0 ((passP ls).bind fun _ => f) ((passP ls).bind fun _ => f') :=
  lc_bind (fun _ => rfl) (lc_pass hE ls k0 hl) fun _ _ _ => hf
theorem lc_eqb {α β : Type} {S : β → β → Prop} {L L' : List (Wd × Nat)} {k0 : Nat} {a a' : Pf α} {f f' : α → Pf β} (ha : Lc Eq L L' k0 a a') (hf : ∀ x, Lc S L L' k0 (f x) (f' x)) : Lc S L L' k0 (a.bind f) (a'.bind f') :=
  lc_bind (fun _ => rfl) ha fun x x' e => by subst e; exact hf x
theorem lc_cell (R : Rels) {L L' : List (Wd × Nat)} {k0 : Nat} (hE : Le L) {ex ex' : Pf Ex} (h : Lc R.x L L' k0 ex ex') : Lc R.x L L' k0 (cellP ex) (cellP ex') :=
  lc_then hE (lc_bind R.xx h fun _ _ hx => lc_then hE (lc_ret hx))
theorem R1 (R : Rels) {a b : Ex} (h : R.x a b) : LQ R.x [a] [b] := ⟨h, trivial⟩
theorem lc_ofField {L L' : List (Wd × Nat)} {k0 : Nat} (hE : Le L) (kd : Nat) : Lc Eq L L' k0 (ofFieldP kd) (ofFieldP kd) :=
  lc_eqb (lc_owner hE) fun _ => lc_eqb (lc_fieldOf hE) fun _ => lc_ret rfl
theorem ifIs_eq {α : Type} (n : List UInt8) (a b : Pf α) : ifIs n a b = condP (fun L k => !decide (n = metaL) && passedP [40] L k) a b := by
  funext L k
  simp only [ifIs, condP]
  by_cases h : decide (n = metaL) = false ∧ passedP [40] L k = true
  · rw [if_pos h, if_pos (by rw [h.1, h.2]; rfl)]
  · rw [if_neg h, if_neg (by rw [Bool.and_eq_true, Bool.not_eq_true']; exact h)]
theorem lc_setOrCall (R : Rels) {L L' : List (Wd × Nat)} {k0 : Nat} (hE : Le L) {ex ex' : Pf Ex} {be be' : Pf (List Ex)} (h : Lc R.x L L' k0 ex ex') (hb : Lc (LQ R.x) L L' k0 be be') : Lc R.s L L' k0 (setOrCallP ex be) (setOrCallP ex' be') := by
  refine lc_eqb (lc_owner hE) fun n => ?_
  rw [ifIs_eq, ifIs_eq]
  refine lc_cond (fun k hA => by rw [ag_passed hA]) ?_ ?_
  · exact lc_bind R.ss (lc_bind (LQ.refl R.xx) hb fun _ _ hl => lc_then hE (lc_ret (R.hs _ _ _ _ _ _ _ _ _ _ _ _ _ hl (LQ.refl R.ss _) (LQ.refl R.ss _)))) fun _ _ hs => lc_ret hs
  · exact lc_eqb (lc_fieldOf hE) fun f => lc_then hE (lc_bind R.xx (lc_closed hE R.xx h) fun _ _ hx => lc_ret (R.hs _ _ _ _ _ _ _ _ _ _ _ _ _ (R1 R hx) (LQ.refl R.ss _) (LQ.refl R.ss _)))
def RowsQ {α : Type} (S : α → α → Prop) (L L' : List (Wd × Nat)) (k0 : Nat) : List (Rw α) → List (Rw α) → Prop
  | [], [] => True
  | r :: rs, r' :: rs' => r.key = r'.key ∧ r.key ≠ [] ∧ Lc S L L' k0 r.f r'.f ∧ RowsQ S L L' k0 rs rs'
  | _, _ => False
theorem findK_q {α : Type} {S : α → α → Prop} {L L' : List (Wd × Nat)} {k0 : Nat} (s : List UInt8) : ∀ {rows rows' : List (Rw α)}, RowsQ S L L' k0 rows rows' → (findK rows s = none ∧ findK rows' s = none) ∨ ∃ f f', findK rows s = some f ∧ findK rows' s = some f' ∧ s ≠ [] ∧ Lc S L L' k0 f f'
  | [], [], _ => .inl ⟨rfl, rfl⟩
  | r :: rs, r' :: rs', h => by
    obtain ⟨h1, h2, h3, h4⟩ := h
    by_cases e : s = r.key
    · refine .inr ⟨r.f, r'.f, ?_, ?_, ?_, h3⟩
      · rw [findK, if_pos e]
      · rw [findK, if_pos (e.trans h1)]
      · rw [e]; exact h2
    · have e' : ¬ s = r'.key := fun x => e (x.trans h1.symm)
      have := findK_q s h4
      rw [findK, if_neg e, findK, if_neg e']
      exact this
  | [], _ :: _, h => by cases h
  | _ :: _, [], h => by cases h
theorem lc_stmt (R : Rels) {L L' : List (Wd × Nat)} {k0 : Nat} (hE : Le L) {rows rows' : List (Rw Sm)} {sc sc' : Pf Sm} (hq : RowsQ R.s L L' (k0 + 1) rows rows') (hs : Lc R.s L L' k0 sc sc') : Lc R.s L L' k0 (stmtP rows sc) (stmtP rows' sc') := by
  intro k h1 h2
  rcases findK_q (wordS L k) hq with ⟨e1, e2⟩ | ⟨f, f', e1, e2, hn, hf⟩
  · have p := lc_bind (f := fun s => Pf.ret (smLn s (lineP L k))) (f' := fun s => Pf.ret (smLn s (lineP L' k))) R.ss hs (fun _ _ hx => lc_ret (R.sl _ _ _ _ hx)) k h1 h2
    have e3 : stmtP rows sc L k = (sc.bind fun s => Pf.ret (smLn s (lineP L k))) L k := by unfold stmtP; rw [e1]
    rw [e3]
    exact p.pre fun hA => by unfold stmtP; rw [(ag_words hA).2.1, e2]
  · have p := lc_bind (f := fun s => Pf.ret (smLn s (lineP L k))) (f' := fun s => Pf.ret (smLn s (lineP L' k))) R.ss hf (fun _ _ hx => lc_ret (R.sl _ _ _ _ hx)) (k + 1) (by omega) (word_lt hE hn)
    have e3 : stmtP rows sc L k = (f.bind fun s => Pf.ret (smLn s (lineP L k))) L (k + 1) := by unfold stmtP; rw [e1]
    rw [e3]
    exact p.later.pre fun hA => by unfold stmtP; rw [(ag_words hA).2.1, e2]
theorem lc_decl (R : Rels) {L L' : List (Wd × Nat)} {k0 : Nat} (hE : Le L) {rows rows' : List (Rw Dc)} (hq : RowsQ R.d L L' (k0 + 1) rows rows') : Lc R.d L L' k0 (declP rows) (declP rows') := by
  intro k h1 h2
  rcases findK_q (wordS L k) hq with ⟨e1, e2⟩ | ⟨f, f', e1, e2, hn, hf⟩
  · have e3 : declP rows L k = .error k := by unfold declP; rw [e1]
    rw [e3]
    exact (LcR.fail h2).pre fun hA => by unfold declP; rw [(ag_words hA).2.1, e2]
  · have p := lc_bind (f := fun s => Pf.ret (dcLn s (lineP L k))) (f' := fun s => Pf.ret (dcLn s (lineP L' k))) R.dd hf (fun _ _ hx => lc_ret (R.dl _ _ _ _ hx)) (k + 1) (by omega) (word_lt hE hn)
    have e3 : declP rows L k = (f.bind fun s => Pf.ret (dcLn s (lineP L k))) L (k + 1) := by unfold declP; rw [e1]
    rw [e3]
    exact p.later.pre fun hA => by unfold declP; rw [(ag_words hA).2.1, e2]
/- the statements' table. -/
theorem eq_s (R : Rels) {L L' : List (Wd × Nat)} {k0 : Nat} {f f' : Pf Sm} (h : Lc Eq L L' k0 f f') : Lc R.s L L' k0 f f' := h.imp fun a b e => by subst e; exact R.ss a
theorem lc_ofName (R : Rels) {L L' : List (Wd × Nat)} {k0 : Nat} (hE : Le L) (kd : Nat) : Lc R.s L L' k0 (ofNameP kd) (ofNameP kd) := eq_s R (lc_eqb (lc_closed hE (fun _ => rfl) (lc_name hE)) fun _ => lc_ret rfl)
theorem lc_bare (R : Rels) {L L' : List (Wd × Nat)} {k0 : Nat} (hE : Le L) (kd : Nat) : Lc R.s L L' k0 (bareP kd) (bareP kd) := eq_s R (lc_then hE (lc_ret rfl))
theorem lc_array (R : Rels) {L L' : List (Wd × Nat)} {k0 : Nat} (hE : Le L) {ex ex' : Pf Ex} (h : Lc R.x L L' k0 ex ex') (kd : Nat) : Lc R.s L L' k0 (fromArrayP ex kd) (fromArrayP ex' kd) :=
  lc_eqb (lc_ofField hE kd) fun s => lc_then hE (lc_eqb (lc_name hE) fun a => lc_bind R.xx (lc_cell R hE h) fun _ _ hx => lc_then hE (lc_ret (R.hs _ _ _ _ _ _ _ _ _ _ _ _ _ (R1 R hx) (LQ.refl R.ss _) (LQ.refl R.ss _))))
theorem lc_brE (R : Rels) {L L' : List (Wd × Nat)} {k0 : Nat} (hE : Le L) : Lc (LQ R.x) L L' k0 brE brE := lc_brack hE R.xx (lc_some hE R.xx (lc_expr R hE))
theorem lc_stRows (R : Rels) {L L' : List (Wd × Nat)} {k0 : Nat} (hE : Le L) {bl bl' : Pf (List Sm)} (hb : Lc (LQ R.s) L L' k0 bl bl') : RowsQ R.s L L' k0 (stRows bl) (stRows bl') := by
  have hx : Lc R.x L L' k0 exprP exprP := lc_expr R hE
  refine ⟨rfl, List.cons_ne_nil _ _, ?_, rfl, List.cons_ne_nil _ _, ?_, rfl, List.cons_ne_nil _ _, ?_, rfl, List.cons_ne_nil _ _, ?_, rfl, List.cons_ne_nil _ _, ?_, rfl, List.cons_ne_nil _ _, ?_, rfl, List.cons_ne_nil _ _, ?_, rfl, List.cons_ne_nil _ _, ?_, rfl, List.cons_ne_nil _ _, ?_, rfl, List.cons_ne_nil _ _, ?_, rfl, List.cons_ne_nil _ _, ?_, rfl, List.cons_ne_nil _ _, ?_, rfl, List.cons_ne_nil _ _, ?_, rfl, List.cons_ne_nil _ _, ?_, trivial⟩
  · exact lc_bind R.xx hx fun _ _ h1 => lc_bind (LQ.refl R.ss) hb fun _ _ h2 => lc_ifP hE (by decide) (lc_bind (LQ.refl R.ss) (hb.from (by omega)) fun _ _ h3 => lc_ret (R.hs _ _ _ _ _ _ _ _ _ _ _ _ _ (R1 R h1) h2 h3)) (lc_ret (R.hs _ _ _ _ _ _ _ _ _ _ _ _ _ (R1 R h1) h2 (LQ.refl R.ss _)))
  · exact lc_ofName R hE 3
  · exact lc_ofName R hE 5
  · exact lc_ofName R hE 6
  · exact lc_eqb (lc_name hE) fun n => lc_bind R.xx (lc_cell R hE hx) fun _ _ h1 => lc_then hE (lc_ret (R.hs _ _ _ _ _ _ _ _ _ _ _ _ _ (R1 R h1) (LQ.refl R.ss _) (LQ.refl R.ss _)))
  · exact lc_array R hE hx 8
  · exact lc_eqb (lc_name hE) fun n => lc_bind R.xx (lc_cell R hE hx) fun _ _ h1 => lc_then hE (lc_bind R.xx (lc_closed hE R.xx hx) fun _ _ h2 => lc_ret (R.hs _ _ _ _ _ _ _ _ _ _ _ _ _ ⟨h1, h2, trivial⟩ (LQ.refl R.ss _) (LQ.refl R.ss _)))
  · exact lc_array R hE hx 10
  · exact eq_s R (lc_eqb (lc_ofField hE 11) fun s => lc_then hE (lc_ret rfl))
  · exact lc_bare R hE 12
  · exact lc_bare R hE 15
  · exact lc_bare R hE 16
  · exact lc_bind (LQ.refl R.xx) (lc_some hE R.xx hx) fun _ _ h1 => lc_then hE (lc_ret (R.hs _ _ _ _ _ _ _ _ _ _ _ _ _ h1 (LQ.refl R.ss _) (LQ.refl R.ss _)))
  · exact eq_s R (lc_eqb (lc_closed hE (fun _ => rfl) (lc_whole hE)) fun _ => lc_ret rfl)
theorem lc_block (R : Rels) {L L' : List (Wd × Nat)} (hE : Le L) : ∀ (f f' k0 : Nat), L.length ≤ f + k0 → L'.length ≤ f' + k0 → Lc (LQ R.s) L L' k0 (blockF f) (blockF f') := by
  intro f
  induction f with
  | zero => intro f' k0 h _ k h1 h2; omega
  | succ f ih =>
    have main : ∀ f' k0, L.length ≤ f + 1 + k0 → L'.length ≤ f' + 1 + k0 → Lc (LQ R.s) L L' k0 (blockF (f + 1)) (blockF (f' + 1)) := by
      intro f' k0 h h'
      rw [blockF, blockF]
      refine lc_bindG (fun _ => rfl) (goes_pass _ _) (lc_pass hE _ _ (by simp)) fun _ _ _ => ?_
      have hb := ih f' (k0 + 1) (by omega) (by omega)
      exact lc_bind (LQ.refl R.ss) (lc_untilP hE (by decide) R.ss (goes_stmtA (goes_blockF f).stays) (lc_stmt R hE (lc_stRows R hE (hb.from (by omega))) (lc_setOrCall R hE (lc_expr R hE) (lc_brE R hE)))) fun _ _ hx => lc_ret hx
    intro f' k0 h h'
    cases f' with
    | zero => exact Lc.late (main L'.length k0 h (by omega)) (by omega)
    | succ f' => exact main f' k0 h h'
theorem lc_blockA (R : Rels) {L L' : List (Wd × Nat)} (hE : Le L) {k0 : Nat} : Lc (LQ R.s) L L' k0 blockA blockA := fun k _ h2 => lc_block R hE (L.length - k) (L'.length - k) k (by omega) (by omega) k (Nat.le_refl _) h2
/- the declarations' table. -/
theorem lc_field {L L' : List (Wd × Nat)} {k0 : Nat} (hE : Le L) : Lc Eq L L' k0 fieldP fieldP := lc_eqb (lc_name hE) fun _ => lc_eqb (lc_whole hE) fun _ => lc_ret rfl
theorem lc_rows {α : Type} {R : α → α → Prop} {L L' : List (Wd × Nat)} {k0 : Nat} (hE : Le L) {en : List UInt8} (hl : en ≠ []) (rr : ∀ x, R x x) {f f' : Pf α} (hg : Goes f) (h : Lc R L L' k0 f f') : Lc (LQ R) L L' k0 (rowsP en f) (rowsP en f') := lc_untilP hE hl rr (closed_goes hg) (lc_closed hE rr h)
theorem lc_fields {L L' : List (Wd × Nat)} {k0 : Nat} (hE : Le L) : Lc Eq L L' k0 fieldsP fieldsP := lc_then hE (lc_eqb (lc_eqs (lc_rows hE (by decide) (fun _ => rfl) goes_field (lc_field hE))) fun _ => lc_ret rfl)
theorem lc_case {L L' : List (Wd × Nat)} {k0 : Nat} (hE : Le L) : Lc Eq L L' k0 caseP caseP := lc_eqb (lc_lit hE) fun _ => lc_ifP hE (by decide) (lc_eqb (lc_lit hE) fun _ => lc_then hE (lc_eqb (lc_name hE) fun _ => lc_ret rfl)) (lc_then hE (lc_eqb (lc_name hE) fun _ => lc_ret rfl))
theorem lc_kk {L L' : List (Wd × Nat)} {k0 : Nat} (hE : Le L) : Lc Eq L L' k0 kkP kkP := lc_ifP hE (by decide) (lc_ret rfl) (lc_ifP hE (by decide) (lc_ret rfl) (lc_ifP hE (by decide) (lc_ret rfl) (lc_then hE (lc_ret rfl))))
def KQ (R : Rels) (p q : Ex × Nat) : Prop := R.x p.1 q.1 ∧ p.2 = q.2
theorem KQ.refl (R : Rels) (p : Ex × Nat) : KQ R p p := ⟨R.xx _, rfl⟩
theorem lc_key (R : Rels) {L L' : List (Wd × Nat)} {k0 : Nat} (hE : Le L) : Lc (KQ R) L L' k0 (keyP exprP) (keyP exprP) := lc_bind R.xx (lc_expr R hE) fun _ _ h => lc_eqb (lc_kk hE) fun _ => lc_ret ⟨h, rfl⟩
theorem lc_state (R : Rels) {L L' : List (Wd × Nat)} {k0 : Nat} (hE : Le L) : Lc R.t L L' k0 (stateP exprP casesP) (stateP exprP casesP) := by
  have e : stateP exprP casesP = lnP fun ln => nameP.bind fun n => (passP [[123]]).bind fun _ => (whP [116, 97, 107, 101] (closedP nameP)).bind (stateC exprP casesP ln n) := rfl
  rw [e]
  refine lc_ln fun n n' => lc_eqb (lc_name hE) fun m => lc_then hE (lc_eqb (lc_eqs (lc_whP hE (by decide) (fun _ => rfl) (lc_closed hE (fun _ => rfl) (lc_name hE)))) fun hs => ?_)
  have hc : ∀ k0, Lc Eq L L' k0 casesP casesP := fun k0 => lc_eqs (lc_rows hE (by decide) (fun _ => rfl) goes_case (lc_case hE))
  exact lc_ifP hE (by decide) (lc_bind R.xx (lc_expr R hE) fun _ _ hx => lc_then hE (lc_eqb (hc _) fun _ => lc_eqb (lc_closed hE (fun _ => rfl) (lc_name hE)) fun _ => lc_then hE (lc_then hE (lc_ret (R.ht _ _ _ _ _ _ _ _ (R1 R hx)))))) (lc_then hE (lc_eqb (lc_closed hE (fun _ => rfl) (lc_name hE)) fun _ => lc_then hE (lc_ret (R.ht _ _ _ _ _ _ _ _ (LQ.refl R.xx _)))))
theorem eq_d (R : Rels) {L L' : List (Wd × Nat)} {k0 : Nat} {f f' : Pf Dc} (h : Lc Eq L L' k0 f f') : Lc R.d L L' k0 f f' := h.imp fun a b e => by subst e; exact R.dd a
theorem lc_dcRows (R : Rels) {L L' : List (Wd × Nat)} {k0 : Nat} (hE : Le L) : RowsQ R.d L L' k0 dcRows dcRows := by
  have hcw : Lc Eq L L' k0 (closedP wholeP) (closedP wholeP) := lc_closed hE (fun _ => rfl) (lc_whole hE)
  refine ⟨rfl, List.cons_ne_nil _ _, ?_, rfl, List.cons_ne_nil _ _, ?_, rfl, List.cons_ne_nil _ _, ?_, rfl, List.cons_ne_nil _ _, ?_, rfl, List.cons_ne_nil _ _, ?_, rfl, List.cons_ne_nil _ _, ?_, rfl, List.cons_ne_nil _ _, ?_, rfl, List.cons_ne_nil _ _, ?_, rfl, List.cons_ne_nil _ _, ?_, rfl, List.cons_ne_nil _ _, ?_, trivial⟩
  · exact eq_d R (lc_eqb (lc_name hE) fun _ => lc_eqb (lc_fields hE) fun _ => lc_ret rfl)
  · exact eq_d R (lc_eqb (lc_fields hE) fun _ => lc_ret rfl)
  · exact eq_d R (lc_eqb (lc_name hE) fun _ => lc_eqb (lc_whole hE) fun _ => lc_eqb hcw fun _ => lc_ret rfl)
  · exact eq_d R (lc_eqb (lc_name hE) fun _ => lc_eqb hcw fun _ => lc_ret rfl)
  · exact eq_d R (lc_eqb (lc_name hE) fun _ => lc_eqb (lc_whole hE) fun _ => lc_eqb (lc_whole hE) fun _ => lc_eqb hcw fun _ => lc_ret rfl)
  · exact lc_then hE (lc_bind (LQ.refl R.tt) (lc_untilP hE (by decide) R.tt (goes_state goes_exprP.stays (goes_rows goes_case.stays).stays) (lc_state R hE)) fun _ _ h => lc_ret (R.hd _ _ _ _ _ _ _ _ _ _ _ _ _ _ _ _ _ _ _ h (LQ.refl (KQ.refl R) _) (LQ.refl R.ss _)))
  · exact lc_eqb (lc_name hE) fun _ => lc_eqb (lc_eqs (lc_brack hE (fun _ => rfl) (lc_some2 hE (fun _ => rfl) (lc_field hE)))) fun _ => lc_bind (LQ.refl R.ss) (lc_blockA R hE) fun _ _ h => lc_ret (R.hd _ _ _ _ _ _ _ _ _ _ _ _ _ _ _ _ _ _ _ (LQ.refl R.tt _) (LQ.refl (KQ.refl R) _) h)
  · exact lc_eqb (lc_name hE) fun _ => lc_then hE (lc_bind (LQ.refl (KQ.refl R)) (lc_rows hE (by decide) (KQ.refl R) (goes_key goes_exprP) (lc_key R hE)) fun _ _ h => lc_then hE (lc_eqb (lc_name hE) fun _ => lc_eqb (lc_eqs (lc_untilP hE (by decide) (fun _ => rfl) nameP_goes (lc_name hE))) fun _ => lc_then hE (lc_eqb (lc_name hE) fun _ => lc_eqb (lc_eqs (lc_brack hE (fun _ => rfl) (lc_some2 hE (fun _ => rfl) (lc_lit hE)))) fun _ => lc_then hE (lc_eqb hcw fun _ => lc_then hE (lc_ret (R.hd _ _ _ _ _ _ _ _ _ _ _ _ _ _ _ _ _ _ _ (LQ.refl R.tt _) h (LQ.refl R.ss _)))))))
  · exact lc_bind (LQ.refl R.ss) (lc_blockA R hE) fun _ _ h => lc_ret (R.hd _ _ _ _ _ _ _ _ _ _ _ _ _ _ _ _ _ _ _ (LQ.refl R.tt _) (LQ.refl (KQ.refl R) _) h)
  · exact eq_d R (lc_then hE (lc_eqb (lc_eqs (lc_rows hE (by decide) (fun _ => rfl) nameP_goes (lc_name hE))) fun _ => lc_ret rfl))
theorem pr_eq {dc : Pf Dc} {g : Nat} {L : List (Wd × Nat)} {k : Nat} {x : Wd × Nat} (hx : L[k]? = some x) : prF dc (g + 1) L k = if x.1.k = 0 then .ok ([], k) else (dc.bind fun y => (prF dc g).bind fun ys => Pf.ret (y :: ys)) L k := by
  simp only [prF, hx, Pf.bind, Pf.ret]
  split
  · rfl
  · cases dc L k with
    | error e => rfl
    | ok y =>
      simp only
      cases prF dc g L y.2 <;> rfl
theorem lc_pr (R : Rels) {L L' : List (Wd × Nat)} {dc dc' : Pf Dc} (hg : Goes dc) : ∀ (g g' k0 : Nat), Lc R.d L L' k0 dc dc' → L.length + 1 ≤ g + k0 → L'.length + 1 ≤ g' + k0 → Lc (LQ R.d) L L' k0 (prF dc g) (prF dc' g') := by
  intro g
  induction g with
  | zero => intro g' k0 _ h _ k h1 h2; omega
  | succ g ih =>
    have main : ∀ g' k0, Lc R.d L L' k0 dc dc' → L.length + 1 ≤ g + 1 + k0 → L'.length + 1 ≤ g' + 1 + k0 → Lc (LQ R.d) L L' k0 (prF dc (g + 1)) (prF dc' (g' + 1)) := by
      intro g' k0 hd h h' k h1 h2
      have hx : L[k]? = some L[k] := List.getElem?_eq_getElem h2
      have hy : ∀ {r : Except Nat (List Dc × Nat)}, (∀ y, L'[k]? = some y → y.1 = L[k].1 → prF dc' (g' + 1) L' k = r) → Ag L L' k → prF dc' (g' + 1) L' k = r := by
        intro r hr hA
        rcases ag_get hA with ⟨e1, _⟩ | ⟨x, n, n', e1, e2⟩
        · rw [hx] at e1; cases e1
        · refine hr _ e2 ?_
          rw [hx] at e1; injection e1 with e1; rw [e1]
      rw [pr_eq hx]
      by_cases h0 : L[k].1.k = 0
      · rw [if_pos h0]
        exact (LcR.ret h2 trivial).pre (hy fun y e1 e2 => by rw [pr_eq e1, e2, if_pos h0])
      · rw [if_neg h0]
        exact (lc_bindG R.dd hg hd (f := fun y => (prF dc g).bind fun ys => Pf.ret (y :: ys)) (f' := fun y => (prF dc' g').bind fun ys => Pf.ret (y :: ys)) (fun _ _ hx => lc_bind (LQ.refl R.dd) (ih g' (k0 + 1) (hd.from (by omega)) (by omega) (by omega)) fun _ _ hxs => lc_ret ⟨hx, hxs⟩) k h1 h2).pre (hy fun y e1 e2 => by rw [pr_eq e1, e2, if_neg h0])
    intro g' k0 hd h h'
    cases g' with
    | zero => exact Lc.late (main (L'.length + 2) k0 hd h (by omega)) (by omega)
    | succ g' => exact main g' k0 hd h h'
theorem lc_prog (R : Rels) {L L' : List (Wd × Nat)} (hE : Le L) {k0 : Nat} : Lc (LQ R.d) L L' k0 progA progA :=
  lc_fuel (F := prF declA) (F' := prF declA) fun k _ => lc_pr R goes_declA _ _ k (lc_decl R hE (lc_dcRows R hE)) (by omega) (by omega)
end Go.Proofs.YtcfopkaomknmjaaGreatDoor
/- Words of two texts with a byte 10 between. -/
namespace Go.Proofs.YtcfopkaomknmjaaGreatDoor
open Go.RowKit

theorem tw_app {P : UInt8 → Bool} {r b : List UInt8} (hP : P 10 = false) : (r ++ 10 :: b).takeWhile P = r.takeWhile P ∧ (r ++ 10 :: b).dropWhile P = r.dropWhile P ++ 10 :: b := by
  induction r with
  | nil => simp [hP]
  | cons c r ih =>
    rw [List.cons_append, List.takeWhile_cons, List.takeWhile_cons, List.dropWhile_cons, List.dropWhile_cons, ih.1, ih.2]
    cases P c <;> simp
theorem db_app (r b : List UInt8) : (r ++ 10 :: b).dropWhile isBl = if r.dropWhile isBl = [] then b.dropWhile isBl else r.dropWhile isBl ++ 10 :: b := by
  induction r with
  | nil =>
    have h : isBl 10 = true := by decide +kernel
    simp [h]
  | cons c r ih =>
    rw [List.cons_append, List.dropWhile_cons, List.dropWhile_cons]
    cases isBl c
    · simp
    · simp only [if_true]; exact ih
theorem n10_10 : n10 10 = false := by decide +kernel
theorem isW_ten : isW 10 = false := by decide +kernel
theorem isRem_app {r b : List UInt8} (h : r ≠ []) : isRem (r ++ 10 :: b) = isRem r := by
  match r, h with
  | [c], _ => simp [isRem, Lib.hasPrefix, List.isPrefixOf]
  | c :: d :: r, _ => simp [isRem, Lib.hasPrefix, List.isPrefixOf]
theorem skR_nil : skR [] = [] := skR_no rfl
theorem skR_app (b : List UInt8) (r : List UInt8) (h : r ≠ []) : skR (r ++ 10 :: b) = if skR r = [] then skip b else skR r ++ 10 :: b := by
  induction hn : r.length using Nat.strongRecOn generalizing r with
  | _ n ih =>
    cases hr : isRem r with
    | false =>
      rw [skR_no (by rw [isRem_app h]; exact hr), skR_no hr, if_neg h]
    | true =>
      rw [skR_yes (by rw [isRem_app h]; exact hr), skR_yes hr, (tw_app n10_10).2, db_app]
      by_cases he : (r.dropWhile n10).dropWhile isBl = []
      · rw [if_pos he, he, skR_nil, if_pos rfl]; rfl
      · rw [if_neg he]
        exact ih _ (by rw [← hn]; exact rem_less hr) _ he rfl
theorem skip_app (r b : List UInt8) : skip (r ++ 10 :: b) = if skip r = [] then skip b else skip r ++ 10 :: b := by
  unfold skip
  rw [db_app]
  by_cases he : r.dropWhile isBl = []
  · rw [if_pos he, he, skR_nil, if_pos rfl]
  · rw [if_neg he]
    exact skR_app b _ he
theorem sgn_app {r b : List UInt8} : sgn (r ++ 10 :: b) = sgn r := by
  have h10 : ∀ s ∈ sgs, (10 : UInt8) ∉ s := by decide +kernel
  unfold sgn
  congr 1
  have key : ∀ s : List UInt8, (10 : UInt8) ∉ s → s.isPrefixOf (r ++ 10 :: b) = s.isPrefixOf r := fun s hs => by
    cases h : s.isPrefixOf r with
    | true =>
      rw [List.isPrefixOf_iff_prefix] at h ⊢
      exact h.trans (List.prefix_append _ _)
    | false =>
      cases h2 : s.isPrefixOf (r ++ 10 :: b) with
      | false => rfl
      | true =>
        rw [List.isPrefixOf_iff_prefix] at h2
        exfalso
        rcases Nat.lt_or_ge r.length s.length with hl | hl
        · obtain ⟨t, ht⟩ := h2
          have e : (s ++ t)[r.length]? = some 10 := by rw [ht]; simp
          rw [List.getElem?_append_left hl] at e
          exact hs (List.mem_of_getElem? e)
        · have : s <+: r := List.prefix_of_prefix_length_le h2 (List.prefix_append _ _) hl
          rw [← List.isPrefixOf_iff_prefix, h] at this
          cases this
  generalize sgs = l at h10
  induction l with
  | nil => rfl
  | cons s l ih =>
    rw [List.find?_cons, List.find?_cons, key s (h10 s (by simp)), ih (fun x hx => h10 x (by simp [hx]))]
theorem wdA_app (r b : List UInt8) : wdA (r ++ 10 :: b) = ((wdA r).1, (wdA r).2 ++ 10 :: b) := by
  unfold wdA
  rw [(tw_app isW_ten).1, (tw_app isW_ten).2]
  cases r.takeWhile isW with
  | nil =>
    simp only [wd1]
    rw [sgn_app, List.drop_append_of_le_length (sgn_pre _).2]
  | cons c l =>
    unfold wd1
    simp only
    split
    · split <;> rfl
    · rfl
theorem drop_c10 (P : UInt8 → Bool) (l : List UInt8) : c10 (l.dropWhile P) ≤ c10 l := by have := dropW_c10 P l; omega
theorem skR_c10 (r : List UInt8) : c10 (skR r) ≤ c10 r := by
  induction hn : r.length using Nat.strongRecOn generalizing r with
  | _ n ih =>
    cases h : isRem r with
    | false => rw [skR_no h]; exact Nat.le_refl _
    | true =>
      rw [skR_yes h]
      exact Nat.le_trans (ih _ (by rw [← hn]; exact rem_less h) _ rfl) (Nat.le_trans (drop_c10 _ _) (drop_c10 _ _))
theorem skip_c10 (r : List UInt8) : c10 (skip r) ≤ c10 r := Nat.le_trans (skR_c10 _) (drop_c10 _ _)
def LR.then (x : LR) (f : List (Wd × Nat) → LR) : LR := match x with | .error k => .error k | .ok ws => f ws
theorem LR.app_then (a : List (Wd × Nat)) (x y : LR) : LR.app a (x.then fun ws => LR.app ws y) = (LR.app a x).then fun ws => LR.app ws y := by
  cases x with
  | error k => rfl
  | ok ws => exact LR.app_app a ws y
theorem tk_app (b : List UInt8) (r : List UInt8) (n : Nat) (h : r ≠ []) :
    tk (r ++ 10 :: b) n = (tk r n).then fun ws => LR.app ws (tk (skip b) (n + c10 r + 1 + c10 b - c10 (skip b))) := by
  induction hl : r.length using Nat.strongRecOn generalizing r n with
  | _ m ih =>
    have hne : r ++ 10 :: b ≠ [] := by simp
    cases hw : wdA r with
    | mk o r' =>
      have hw2 := wdA_app r b
      rw [hw] at hw2
      have hc := wdA_c10 r
      rw [hw] at hc
      simp only at hw2 hc
      cases o with
      | none => rw [tk_none hne hw2, tk_none h hw]; rfl
      | some x =>
        have hless := wdA_less hw
        have hsk := skip_le r'
        have hcJ : c10 (r' ++ 10 :: b) = c10 r' + 1 + c10 b := by rw [c10_app]; simp [c10]; omega
        rw [tk_some hne hw2, tk_some h hw, skip_app, hcJ]
        by_cases he : skip r' = []
        · rw [if_pos he, he, tk_nil, hc]
          simp only [LR.then, LR.app, List.append_nil]
          congr 2; omega
        · have hcS : c10 (skip r' ++ 10 :: b) = c10 (skip r') + 1 + c10 b := by rw [c10_app]; simp [c10]; omega
          have hcl := skip_c10 r'
          rw [if_neg he, hcS, show n + (c10 r' + 1 + c10 b) - (c10 (skip r') + 1 + c10 b) = n + c10 r' - c10 (skip r') by omega]
          rw [ih _ (by rw [← hl]; omega) _ _ he rfl, LR.app_then]
          congr 2
          funext ws
          congr 2
          rw [← hc]; omega
/- lines further down. -/
def LR.shift (d : Nat) : LR → LR
  | .error k => .error (k + d)
  | .ok ws => .ok (ws.map fun x => (x.1, x.2 + d))
theorem LR.shift_app (d : Nat) (a : List (Wd × Nat)) (x : LR) : LR.shift d (LR.app a x) = LR.app (a.map fun x => (x.1, x.2 + d)) (LR.shift d x) := by
  cases x with
  | error k => rfl
  | ok ws => simp [LR.app, LR.shift]
theorem tk_shift (r : List UInt8) (n d : Nat) : tk r (n + d) = LR.shift d (tk r n) := by
  induction hl : r.length using Nat.strongRecOn generalizing r n with
  | _ m ih =>
    by_cases h : r = []
    · rw [h, tk_nil, tk_nil]; rfl
    · cases hw : wdA r with
      | mk o r' =>
        cases o with
        | none => rw [tk_none h hw, tk_none h hw]; rfl
        | some x =>
          have hless := wdA_less hw
          have hsk := skip_le r'
          have hc := skip_c10 r'
          rw [tk_some h hw, tk_some h hw, LR.shift_app, show n + d + c10 r' - c10 (skip r') = (n + c10 r' - c10 (skip r')) + d by omega, ih _ (by rw [← hl]; omega) _ _ rfl]
          rfl
theorem toks_join (a b : List UInt8) : toks (a ++ 10 :: b) = (toks a).then fun ws => LR.app ws (LR.shift (c10 a + 1) (toks b)) := by
  unfold toks
  have hcJ : c10 (a ++ 10 :: b) = c10 a + 1 + c10 b := by rw [c10_app]; simp [c10]; omega
  have ha := skip_c10 a
  have hb := skip_c10 b
  rw [skip_app, hcJ, ← tk_shift]
  by_cases he : skip a = []
  · rw [if_pos he, he, tk_nil]
    simp only [LR.then]
    rw [LR.app_nil]
    congr 1; omega
  · have hcS : c10 (skip a ++ 10 :: b) = c10 (skip a) + 1 + c10 b := by rw [c10_app]; simp [c10]; omega
    rw [if_neg he, hcS, show c10 a + 1 + c10 b - (c10 (skip a) + 1 + c10 b) = c10 a - c10 (skip a) by omega, tk_app b _ _ he]
    congr 2
    funext ws
    congr 2
    omega
end Go.Proofs.YtcfopkaomknmjaaGreatDoor
/- What a word of a text can be. -/
namespace Go.Proofs.YtcfopkaomknmjaaGreatDoor
open Go.RowKit

def Good (x : Wd) : Prop := (∃ c l, x = ⟨1, c :: l, 0, 0⟩ ∧ (∀ y ∈ c :: l, isW y = true) ∧ isD c = false ∧ (c :: l).length ≤ 255) ∨ (∃ n, x = ⟨2, [], 64, n⟩ ∧ n ≤ 2147483647) ∨ (∃ n v, x = ⟨3, [], n, v⟩ ∧ okN (n : Int) v = true) ∨ (∃ j, j < 27 ∧ x = ⟨4, sgs.getD j [], 0, 0⟩)
theorem sgn_mem {r : List UInt8} (h : sgn r ≠ []) : ∃ j, j < 27 ∧ sgn r = sgs.getD j [] := by
  unfold sgn at h ⊢
  cases hf : sgs.find? (fun s => s.isPrefixOf r) with
  | none => rw [hf] at h; exact absurd rfl h
  | some s =>
    have hm := List.mem_of_find?_eq_some hf
    obtain ⟨j, hj, e⟩ := List.mem_iff_getElem.1 hm
    refine ⟨j, hj, ?_⟩
    simp [List.getD, List.getElem?_eq_getElem hj, e]
theorem tw_all {P : UInt8 → Bool} : ∀ (l : List UInt8), ∀ y ∈ l.takeWhile P, P y = true
  | [], y, h => by simp at h
  | c :: l, y, h => by
    rw [List.takeWhile_cons] at h
    split at h
    · rename_i hc
      rcases List.mem_cons.1 h with rfl | h
      · exact hc
      · exact tw_all l y h
    · simp at h
theorem wdA_good {r r' : List UInt8} {x : Wd} (h : wdA r = (some x, r')) : Good x := by
  unfold wdA at h
  have hall := tw_all (P := isW) r
  cases hr : r.takeWhile isW with
  | nil =>
    rw [hr] at h
    simp only [wd1, Prod.mk.injEq] at h
    obtain ⟨h1, _⟩ := h
    unfold signW at h1
    split at h1
    · cases h1
    · rename_i hne
      injection h1 with h1
      obtain ⟨j, hj, e⟩ := sgn_mem hne
      exact .inr (.inr (.inr ⟨j, hj, by rw [← h1, e]⟩))
  | cons c l =>
    rw [hr] at h hall
    unfold wd1 at h
    simp only at h
    split at h
    · split at h
      · have h1 := (Prod.mk.inj h).1
        unfold wholeW at h1
        split at h1
        · rename_i n hn
          split at h1
          · injection h1 with h1
            exact .inr (.inl ⟨n, h1.symm, puE_lt31 hn⟩)
          · cases h1
        · cases h1
      · have h1 := (Prod.mk.inj h).1
        unfold numW at h1
        split at h1
        · rename_i n v hp
          injection h1 with h1
          exact .inr (.inr (.inl ⟨n, v, h1.symm, (prs_some hp).1⟩))
        · cases h1
    · rename_i hD
      have h1 := (Prod.mk.inj h).1
      unfold nameW at h1
      split at h1
      · rename_i hlen
        injection h1 with h1
        exact .inl ⟨c, l, h1.symm, hall, by simpa using hD, hlen⟩
      · cases h1
theorem tk_good : ∀ (m : Nat) (r : List UInt8) (n : Nat) (xs : List (Wd × Nat)), r.length = m → tk r n = .ok xs → (∀ x ∈ xs, Good x.1 ∧ n ≤ x.2) ∧ xs.Pairwise (fun a b => a.2 ≤ b.2) := by
  intro m
  induction m using Nat.strongRecOn with
  | _ m ih =>
    intro r n xs hm h
    by_cases h0 : r = []
    · rw [h0, tk_nil] at h; cases h; exact ⟨fun x hx => by simp at hx, List.Pairwise.nil⟩
    · cases hw : wdA r with
      | mk o r' =>
        cases o with
        | none => rw [tk_none h0 hw] at h; cases h
        | some y =>
          have hless := wdA_less hw
          have hsk := skip_le r'
          have hc := skip_c10 r'
          rw [tk_some h0 hw] at h
          cases ht : tk (skip r') (n + c10 r' - c10 (skip r')) with
          | error k => rw [ht] at h; cases h
          | ok ws =>
            rw [ht] at h
            cases h
            obtain ⟨i1, i2⟩ := ih _ (by omega) _ _ _ rfl ht
            refine ⟨fun x hx => ?_, List.Pairwise.cons (fun b hb => ?_) i2⟩
            · rcases List.mem_cons.1 hx with rfl | hx
              · exact ⟨wdA_good hw, Nat.le_refl _⟩
              · have := i1 x hx; exact ⟨this.1, by omega⟩
            · have := (i1 b hb).2
              show n ≤ b.2
              omega
theorem toks_good {s : List UInt8} {xs : List (Wd × Nat)} (h : toks s = .ok xs) : (∀ x ∈ xs, Good x.1) ∧ xs.Pairwise (fun a b => a.2 ≤ b.2) := by
  have := tk_good _ _ _ _ rfl h
  exact ⟨fun x hx => (this.1 x hx).1, this.2⟩
end Go.Proofs.YtcfopkaomknmjaaGreatDoor
/- Words told as texts: letters and digits. -/
namespace Go.Proofs.YtcfopkaomknmjaaGreatDoor
open Go.RowKit

theorem skip_of {r r' : List UInt8} (h1 : r.dropWhile isBl = r') (h2 : isRem r' = false) : skip r = r' := by unfold skip; rw [h1, skR_no h2]
theorem shift_shift (a b : Nat) (x : LR) : LR.shift a (LR.shift b x) = LR.shift (b + a) x := by
  cases x with
  | error k => simp [LR.shift]; omega
  | ok ws => simp [LR.shift]; intros; omega
theorem dc_D (n : Nat) : ∀ c ∈ Lib.decDigits n, isD c = true ∧ isW c = true := by
  have h : ∀ d : Fin 10, isD (UInt8.ofNat (48 + d.val)) = true ∧ isW (UInt8.ofNat (48 + d.val)) = true := by decide +kernel
  induction n using Nat.strongRecOn with
  | _ n ih =>
    by_cases hs : n < 10
    · rw [dc_small hs]
      intro c hc
      rw [List.mem_singleton] at hc
      subst hc
      exact h ⟨n, hs⟩
    · rw [dc_big hs]
      intro c hc
      rw [List.mem_append, List.mem_singleton] at hc
      rcases hc with hc | rfl
      · exact ih _ (by omega) c hc
      · exact h ⟨n % 10, Nat.mod_lt _ (by decide)⟩
theorem hx_W (v : Nat) : ∀ c ∈ hx v, isW c = true := by
  have h : ∀ d : Fin 16, isW (dig d.val).toUInt8 = true := by decide +kernel
  induction v using Nat.strongRecOn with
  | _ n ih =>
    by_cases hs : n < 16
    · rw [hx_small hs]
      intro c hc
      rw [List.mem_singleton] at hc
      subst hc
      exact h ⟨n, hs⟩
    · rw [hx_big hs]
      intro c hc
      rw [List.mem_append, List.mem_singleton] at hc
      rcases hc with hc | rfl
      · exact ih _ (by omega) c hc
      · exact h ⟨n % 16, Nat.mod_lt _ (by decide)⟩
theorem tx_W (n v : Nat) : ∀ c ∈ tx n v, isW c = true := by
  intro c hc
  unfold tx at hc
  rw [List.mem_append, List.mem_cons] at hc
  rcases hc with hc | rfl | hc
  · exact (dc_D n c hc).2
  · decide +kernel
  · exact hx_W v c hc
theorem dc_cons (n : Nat) : ∃ c l, Lib.decDigits n = c :: l ∧ isD c = true := by
  cases h : Lib.decDigits n with
  | nil => exact absurd h (dc_nil n)
  | cons c l => exact ⟨c, l, rfl, (dc_D n c (by rw [h]; simp)).1⟩
theorem D_facts : ∀ c : UInt8, isD c = true → isBl c = false ∧ c ≠ 47 ∧ c ≠ 61 ∧ c ≠ 60 := by
  intro c h
  have hm : c ∈ dgS := (isIn_iff dgS c).1 h
  have key : ∀ c ∈ dgS, isBl c = false ∧ c ≠ 47 ∧ c ≠ 61 ∧ c ≠ 60 := by decide +kernel
  exact key c hm
theorem skip_D {c : UInt8} (l : List UInt8) (h : isBl c = false) (h2 : c ≠ 47) : skip (c :: l) = c :: l := by
  refine skip_of (by rw [List.dropWhile_cons, h]; simp) ?_
  unfold isRem
  cases hh : Lib.hasPrefix (c :: l) [47, 47] with
  | false => rfl
  | true =>
    obtain ⟨r', e⟩ := isRem_cons (r := c :: l) hh
    injection e with e1 e2
    exact absurd e1 h2
theorem tw_run {run rest : List UInt8} {c : UInt8} (h : ∀ x ∈ run, isW x = true) (hc : isW c = false) : (run ++ c :: rest).takeWhile isW = run ∧ (run ++ c :: rest).dropWhile isW = c :: rest := by
  constructor
  · rw [List.takeWhile_append_of_pos h, List.takeWhile_cons, hc]; simp
  · rw [List.dropWhile_append_of_pos h, List.dropWhile_cons, hc]; simp
theorem whole_dc {n : Nat} (h : n ≤ 2147483647) : wholeW (Lib.decDigits n) = some ⟨2, [], 64, n⟩ := by
  have e : puE 2147483647 (Lib.decDigits n) 10 = .ok n := by
    obtain ⟨c, l, hd, _⟩ := dc_cons n
    have := pu_dc 2147483647 n h
    rw [hd] at this ⊢
    exact this
  unfold wholeW
  rw [e]
  simp only
  rw [if_pos trivial]
theorem wdA_dc {n : Nat} (h : n ≤ 2147483647) (c : UInt8) (rest : List UInt8) (hc : isW c = false) : wdA (Lib.decDigits n ++ c :: rest) = (some ⟨2, [], 64, n⟩, c :: rest) := by
  obtain ⟨h1, h2⟩ := tw_run (rest := rest) (fun x hx => (dc_D n x hx).2) hc
  unfold wdA
  rw [h1, h2]
  have ha : (Lib.decDigits n).all isD = true := List.all_eq_true.2 fun x hx => (dc_D n x hx).1
  have hw := whole_dc h
  obtain ⟨d, l, hd, hD⟩ := dc_cons n
  rw [hd] at ha hw ⊢
  simp only [wd1]
  rw [hD, ha, hw]
  rfl
theorem wdA_tx {n v : Nat} (h : okN n v = true) (c : UInt8) (rest : List UInt8) (hc : isW c = false) : wdA (tx n v ++ c :: rest) = (some ⟨3, [], n, v⟩, c :: rest) := by
  obtain ⟨h1, h2⟩ := tw_run (rest := rest) (tx_W n v) hc
  unfold wdA
  rw [h1, h2]
  have ha : (tx n v).all isD = false := by
    cases hh : (tx n v).all isD with
    | false => rfl
    | true =>
      have := List.all_eq_true.1 hh 119 (by unfold tx; simp)
      exact absurd this (by decide +kernel)
  have hp := prs_tx h
  obtain ⟨d, l, hd, hD⟩ := dc_cons n
  have ht : tx n v = d :: (l ++ 119 :: hx v) := by unfold tx; rw [hd]; rfl
  rw [ht] at ha hp ⊢
  simp only [wd1]
  rw [hD, ha]
  simp only [if_true, Bool.false_eq_true, if_false]
  unfold numW
  rw [hp]
theorem c10_W {l : List UInt8} (h : ∀ x ∈ l, isW x = true) : c10 l = 0 := by
  unfold c10
  rw [List.count_eq_zero]
  intro hx
  have := h 10 hx
  rw [isW_ten] at this
  cases this
end Go.Proofs.YtcfopkaomknmjaaGreatDoor
/- Words told with blanks between them are read as the same words. -/
namespace Go.Proofs.YtcfopkaomknmjaaGreatDoor
open Go.RowKit

def toldW (x : Wd) : List UInt8 := if x.k = 2 then Lib.decDigits x.v else if x.k = 3 then tx x.w x.v else x.s
theorem W_facts : ∀ c : UInt8, isW c = true → isBl c = false ∧ c ≠ 47 := by
  intro c h
  have hm : c ∈ anL := (isIn_iff anL c).1 h
  have key : ∀ c ∈ anL, isBl c = false ∧ c ≠ 47 := by decide +kernel
  exact key c hm
theorem told_head {x : Wd} (h : Good x) : ∃ c l, toldW x = c :: l ∧ isBl c = false ∧ c ≠ 47 := by
  rcases h with ⟨c, l, rfl, h1, _, _⟩ | ⟨n, rfl, _⟩ | ⟨n, v, rfl, _⟩ | ⟨j, hj, rfl⟩
  · exact ⟨c, l, rfl, W_facts c (h1 c (by simp))⟩
  · obtain ⟨c, l, e, _⟩ := dc_cons n
    exact ⟨c, l, e, W_facts c (dc_D n c (by rw [e]; simp)).2⟩
  · obtain ⟨c, l, e, _⟩ := dc_cons n
    exact ⟨c, l ++ 119 :: hx v, by show tx n v = _; unfold tx; rw [e]; rfl, W_facts c (dc_D n c (by rw [e]; simp)).2⟩
  · have key : ∀ j : Fin 27, ∃ c l, sgs.getD j.val [] = c :: l ∧ isBl c = false ∧ c ≠ 47 := by
      have k2 : ∀ j : Fin 27, (match sgs.getD j.val [] with | [] => false | c :: _ => !isBl c && c != 47) = true := by decide +kernel
      intro j
      have := k2 j
      cases hh : sgs.getD j.val [] with
      | nil => rw [hh] at this; cases this
      | cons c l => rw [hh] at this; simp at this; exact ⟨c, l, rfl, by simpa using this.1, this.2⟩
    exact key ⟨j, hj⟩
theorem told_10 {x : Wd} (h : Good x) : c10 (toldW x) = 0 := by
  rcases h with ⟨c, l, rfl, h1, _, _⟩ | ⟨n, rfl, _⟩ | ⟨n, v, rfl, _⟩ | ⟨j, hj, rfl⟩
  · exact c10_W h1
  · exact c10_W fun y hy => (dc_D n y hy).2
  · exact c10_W (tx_W n v)
  · have key : ∀ j : Fin 27, c10 (sgs.getD j.val []) = 0 := by decide +kernel
    exact key ⟨j, hj⟩
def tl (q : List Wd) : List UInt8 := (q.map fun y => 32 :: toldW y).flatten
theorem tl_cases (q : List Wd) : tl q = [] ∧ q = [] ∨ ∃ y q', q = y :: q' ∧ tl q = 32 :: (toldW y ++ tl q') := by
  cases q with
  | nil => exact .inl ⟨rfl, rfl⟩
  | cons y q' => exact .inr ⟨y, q', rfl, by simp [tl]⟩
theorem tw_tl {run : List UInt8} (q : List Wd) (h : ∀ x ∈ run, isW x = true) : (run ++ tl q).takeWhile isW = run ∧ (run ++ tl q).dropWhile isW = tl q := by
  rcases tl_cases q with ⟨e, _⟩ | ⟨y, q', _, e⟩
  · rw [e, List.append_nil]
    have h2 := takeW_split isW run
    have h3 : run.takeWhile isW = run := by
      have := List.takeWhile_append_of_pos (p := isW) (l₁ := run) (l₂ := []) h
      simpa using this
    have h4 : run.dropWhile isW = [] := by
      have := List.dropWhile_append_of_pos (p := isW) (l₁ := run) (l₂ := []) h
      simpa using this
    exact ⟨h3, h4⟩
  · rw [e]
    exact tw_run h (by decide +kernel)
theorem sg_told (j : Nat) (hj : j < 27) (q : List Wd) : sgn (sgs.getD j [] ++ tl q) = sgs.getD j [] ∧ (sgs.getD j [] ++ tl q).takeWhile isW = [] ∧ (sgs.getD j [] ++ tl q).dropWhile isW = sgs.getD j [] ++ tl q := by
  have k1 : ∀ j : Fin 27, sgn (sgs.getD j.val []) = sgs.getD j.val [] ∧ (match sgs.getD j.val [] with | [] => false | c :: _ => !isW c) = true := by decide +kernel
  have k1' := k1 ⟨j, hj⟩
  simp only at k1'
  have hcons : ∃ c l, sgs.getD j [] = c :: l ∧ isW c = false := by
    have := k1'.2
    cases hh : sgs.getD j [] with
    | nil => rw [hh] at this; cases this
    | cons c l => rw [hh] at this; exact ⟨c, l, rfl, by simpa using this⟩
  refine ⟨?_, ?_, ?_⟩
  · rcases tl_cases q with ⟨e, _⟩ | ⟨y, q', _, e⟩
    · rw [e, List.append_nil]; exact k1'.1
    · rw [e]
      generalize toldW y ++ tl q' = R
      clear k1' hcons e k1
      have key : ∀ j : Fin 27, ∀ R : List UInt8, sgn (sgs.getD j.val [] ++ 32 :: R) = sgs.getD j.val [] := by
        intro j R
        match j with
        | ⟨0, _⟩ | ⟨1, _⟩ | ⟨2, _⟩ | ⟨3, _⟩ | ⟨4, _⟩ | ⟨5, _⟩ | ⟨6, _⟩ | ⟨7, _⟩ | ⟨8, _⟩ | ⟨9, _⟩ | ⟨10, _⟩ | ⟨11, _⟩ | ⟨12, _⟩ | ⟨13, _⟩ | ⟨14, _⟩ | ⟨15, _⟩ | ⟨16, _⟩ | ⟨17, _⟩ | ⟨18, _⟩ | ⟨19, _⟩ | ⟨20, _⟩ | ⟨21, _⟩ | ⟨22, _⟩ | ⟨23, _⟩ | ⟨24, _⟩ | ⟨25, _⟩ | ⟨26, _⟩ => simp [sgn, sgs, List.find?, List.isPrefixOf]
        | ⟨k + 27, h⟩ => omega
      exact key ⟨j, hj⟩ R
  · obtain ⟨c, l, e, hc⟩ := hcons
    rw [e, List.cons_append, List.takeWhile_cons, hc]; simp
  · obtain ⟨c, l, e, hc⟩ := hcons
    rw [e, List.cons_append, List.dropWhile_cons, hc]; simp
theorem wdA_told {x : Wd} (h : Good x) (q : List Wd) : wdA (toldW x ++ tl q) = (some x, tl q) := by
  rcases h with ⟨c, l, rfl, h1, hD, hlen⟩ | ⟨n, rfl, hn⟩ | ⟨n, v, rfl, ho⟩ | ⟨j, hj, rfl⟩
  · obtain ⟨e1, e2⟩ := tw_tl q h1
    unfold wdA
    show wd1 (((c :: l) ++ tl q).takeWhile isW) (((c :: l) ++ tl q).dropWhile isW) = _
    rw [e1, e2]
    unfold wd1
    simp only
    rw [hD]
    simp only [Bool.false_eq_true, if_false]
    unfold nameW
    rw [if_pos hlen]
  · obtain ⟨e1, e2⟩ := tw_tl q (fun y hy => (dc_D n y hy).2)
    unfold wdA
    show wd1 ((Lib.decDigits n ++ tl q).takeWhile isW) ((Lib.decDigits n ++ tl q).dropWhile isW) = _
    rw [e1, e2]
    have ha : (Lib.decDigits n).all isD = true := List.all_eq_true.2 fun x hx => (dc_D n x hx).1
    have hw := whole_dc hn
    obtain ⟨d, l, hd, hD⟩ := dc_cons n
    rw [hd] at ha hw ⊢
    simp only [wd1]
    rw [hD, ha, hw]
    rfl
  · obtain ⟨e1, e2⟩ := tw_tl q (tx_W n v)
    unfold wdA
    show wd1 ((tx n v ++ tl q).takeWhile isW) ((tx n v ++ tl q).dropWhile isW) = _
    rw [e1, e2]
    have ha : (tx n v).all isD = false := by
      cases hh : (tx n v).all isD with
      | false => rfl
      | true =>
        have := List.all_eq_true.1 hh 119 (by unfold tx; simp)
        exact absurd this (by decide +kernel)
    have hp := prs_tx ho
    obtain ⟨d, l, hd, hD⟩ := dc_cons n
    have ht : tx n v = d :: (l ++ 119 :: hx v) := by unfold tx; rw [hd]; rfl
    rw [ht] at ha hp ⊢
    simp only [wd1]
    rw [hD, ha]
    simp only [if_true, Bool.false_eq_true, if_false]
    unfold numW
    rw [hp]
  · obtain ⟨e0, e1, e2⟩ := sg_told j hj q
    unfold wdA
    show wd1 ((sgs.getD j [] ++ tl q).takeWhile isW) ((sgs.getD j [] ++ tl q).dropWhile isW) = _
    rw [e1, e2]
    simp only [wd1]
    rw [e0]
    have hne : sgs.getD j [] ≠ [] := by
      have k : ∀ j : Fin 27, sgs.getD j.val [] ≠ [] := by decide +kernel
      exact k ⟨j, hj⟩
    unfold signW
    rw [if_neg hne, List.drop_left]
def ag : List Wd → List UInt8
  | [] => []
  | x :: q => toldW x ++ tl q
theorem ag_snoc (l : List Wd) (y : Wd) : ag (l ++ [y]) = ag l ++ (if l = [] then [] else [32]) ++ toldW y := by
  cases l with
  | nil => simp [ag, tl]
  | cons x q => simp [ag, tl]
theorem skip_told {x : Wd} (h : Good x) (r : List UInt8) : skip (toldW x ++ r) = toldW x ++ r := by
  obtain ⟨c, l, e, h1, h2⟩ := told_head h
  rw [e]
  exact skip_D _ h1 h2
theorem skip_32 {x : Wd} (h : Good x) (r : List UInt8) : skip (32 :: (toldW x ++ r)) = toldW x ++ r := by
  have h1 := skip_told h r
  unfold skip at h1 ⊢
  rw [List.dropWhile_cons, show isBl 32 = true by decide +kernel]
  exact h1
theorem tk_ag : ∀ (q : List Wd) (x : Wd), Good x → (∀ y ∈ q, Good y) → tk (toldW x ++ tl q) 0 = .ok ((x :: q).map fun y => (y, 0))
  | [], x, hx, _ => by
    have hne : toldW x ++ tl [] ≠ [] := by obtain ⟨c, l, e, _⟩ := told_head hx; rw [e]; simp
    rw [tk_some hne (wdA_told hx [])]
    rw [show tl [] = [] from rfl, skip_of (r := []) (r' := []) rfl rfl, tk_nil]
    rfl
  | y :: q, x, hx, hq => by
    have hne : toldW x ++ tl (y :: q) ≠ [] := by obtain ⟨c, l, e, _⟩ := told_head hx; rw [e]; simp
    rw [tk_some hne (wdA_told hx (y :: q))]
    have hy := hq y (by simp)
    have et : tl (y :: q) = 32 :: (toldW y ++ tl q) := by simp [tl]
    rw [et, skip_32 hy]
    have ec : 0 + c10 (32 :: (toldW y ++ tl q)) - c10 (toldW y ++ tl q) = 0 := by simp [c10]
    rw [ec, tk_ag q y hy (fun z hz => hq z (by simp [hz]))]
    rfl
theorem toks_ag (l : List Wd) (h : ∀ y ∈ l, Good y) : toks (ag l) = .ok (l.map fun y => (y, 0)) := by
  cases l with
  | nil => unfold toks; rw [show ag [] = [] from rfl, skip_of (r := []) (r' := []) rfl rfl, tk_nil]; rfl
  | cons x q =>
    unfold toks
    rw [show ag (x :: q) = toldW x ++ tl q from rfl, skip_told (h x (by simp)), Nat.sub_self]
    exact tk_ag q x (h x (by simp)) (fun y hy => h y (by simp [hy]))
end Go.Proofs.YtcfopkaomknmjaaGreatDoor
