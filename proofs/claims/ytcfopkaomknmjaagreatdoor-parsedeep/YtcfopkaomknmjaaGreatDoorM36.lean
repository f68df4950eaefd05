/- Pieces of the proof: PDa, PDb, PDc, PDw. -/
import Derived.Test.YtcfopkaomknmjaaGreatDoorM35
/- ParseDeep: the words of its three texts. -/
namespace Go.Proofs.YtcfopkaomknmjaaGreatDoor
open Go.RowKit

theorem skip_of {r r' : List UInt8} (h1 : r.dropWhile isBl = r') (h2 : isRem r' = false) : skip r = r' := by unfold skip; rw [h1, skR_no h2]
/- a text that begins with neither a blank nor a remark. -/
def Nb (r : List UInt8) : Prop := ∃ c l, r = c :: l ∧ isBl c = false ∧ c ≠ 47
theorem Nb.rem {r : List UInt8} (h : Nb r) : isRem r = false := by
  obtain ⟨c, l, rfl, _, h2⟩ := h
  cases e : isRem (c :: l) with
  | false => rfl
  | true =>
    obtain ⟨r', e2⟩ := isRem_cons e
    injection e2 with e3 _
    exact absurd e3 h2
theorem Nb.skip {r : List UInt8} (h : Nb r) : skip r = r := by
  refine skip_of ?_ h.rem
  obtain ⟨c, l, rfl, h1, _⟩ := h
  rw [List.dropWhile_cons, h1]; simp
theorem Nb.skip1 {r : List UInt8} (h : Nb r) : Go.Proofs.YtcfopkaomknmjaaGreatDoor.skip (32 :: r) = r := by
  refine skip_of ?_ h.rem
  obtain ⟨c, l, rfl, h1, _⟩ := h
  have h0 : isBl 32 = true := by decide +kernel
  rw [List.dropWhile_cons, h0]
  simp only [if_true]
  rw [List.dropWhile_cons, h1]; simp
theorem c10_32 (r : List UInt8) : c10 (32 :: r) = c10 r := by
  unfold c10
  rw [List.count_cons]; simp
theorem wdA_name {l r : List UInt8} {c : UInt8} (h : (l.all isW && !isD (l.headD 48)) = true) (h2 : l.length ≤ 255) (hc : isW c = false) : wdA (l ++ c :: r) = (some ⟨1, l, 0, 0⟩, c :: r) := by
  rw [Bool.and_eq_true] at h
  have hall : ∀ x ∈ l, isW x = true := List.all_eq_true.1 h.1
  unfold wdA
  have e1 : (l ++ c :: r).takeWhile isW = l := by rw [List.takeWhile_append_of_pos hall, List.takeWhile_cons, hc]; simp
  have e2 : (l ++ c :: r).dropWhile isW = c :: r := by rw [List.dropWhile_append_of_pos hall, List.dropWhile_cons, hc]; simp
  rw [e1, e2]
  cases l with
  | nil =>
    have hd : (!isD (([] : List UInt8).headD 48)) = false := by decide +kernel
    have h2 := h.2
    rw [hd] at h2; cases h2
  | cons d l =>
    have hd : isD d = false := by simpa using h.2
    unfold wd1
    simp only [hd, Bool.false_eq_true, if_false]
    unfold nameW
    rw [if_pos h2]
theorem wdA_sign {r : List UInt8} {c : UInt8} (hs : sgn (c :: r) = [c]) (hc : isW c = false) : wdA (c :: r) = (some ⟨4, [c], 0, 0⟩, r) := by
  unfold wdA
  have e1 : (c :: r).takeWhile isW = [] := by rw [List.takeWhile_cons, hc]; simp
  have e2 : (c :: r).dropWhile isW = c :: r := by rw [List.dropWhile_cons, hc]; simp
  rw [e1, e2]
  unfold wd1
  simp only [hs]
  rfl
theorem tkN0 {l r : List UInt8} {n : Nat} {c : UInt8} (h : (l.all isW && !isD (l.headD 48)) = true) (h2 : l.length ≤ 255) (hc : isW c = false) (hr : Nb (c :: r)) : tk (l ++ c :: r) n = LR.app [(⟨1, l, 0, 0⟩, n)] (tk (c :: r) n) := by
  rw [tk_some (by simp) (wdA_name h h2 hc), hr.skip, Nat.add_sub_cancel]
theorem tkN1 {l r : List UInt8} {n : Nat} (h : (l.all isW && !isD (l.headD 48)) = true) (h2 : l.length ≤ 255) (hr : Nb r) : tk (l ++ 32 :: r) n = LR.app [(⟨1, l, 0, 0⟩, n)] (tk r n) := by
  rw [tk_some (by simp) (wdA_name h h2 (by decide +kernel)), hr.skip1, c10_32, Nat.add_sub_cancel]
theorem tkS0 {r : List UInt8} {n : Nat} {c : UInt8} (hs : sgn (c :: r) = [c]) (hc : isW c = false) (hr : Nb r) : tk (c :: r) n = LR.app [(⟨4, [c], 0, 0⟩, n)] (tk r n) := by
  rw [tk_some (by simp) (wdA_sign hs hc), hr.skip, Nat.add_sub_cancel]
theorem tkS1 {r : List UInt8} {n : Nat} {c : UInt8} (hs : sgn (c :: 32 :: r) = [c]) (hc : isW c = false) (hr : Nb r) : tk (c :: 32 :: r) n = LR.app [(⟨4, [c], 0, 0⟩, n)] (tk r n) := by
  rw [tk_some (by simp) (wdA_sign hs hc), hr.skip1, c10_32, Nat.add_sub_cancel]
/- the words. -/
def wC : Wd × Nat := (⟨1, [99, 111, 110, 116, 114, 111, 108], 0, 0⟩, 0)
def wDr : Wd × Nat := (⟨1, [100, 114, 111, 112], 0, 0⟩, 0)
def wN (c : UInt8) : Wd × Nat := (⟨1, [c], 0, 0⟩, 0)
def wS (c : UInt8) : Wd × Nat := (⟨4, [c], 0, 0⟩, 0)
def dropT : List UInt8 := [100, 114, 111, 112, 59]
def ctlT : List UInt8 := [99, 111, 110, 116, 114, 111, 108, 32, 123]
def preT : List UInt8 := [99, 111, 110, 116, 114, 111, 108, 32, 123, 32, 104, 46, 97, 32, 61, 32]
def drops (k : Nat) : List UInt8 := (List.replicate k dropT).flatten
theorem drops_succ (k : Nat) : drops (k + 1) = dropT ++ drops k := by unfold drops; rw [List.replicate_succ, List.flatten_cons]
theorem drops_snoc (k : Nat) : drops (k + 1) = drops k ++ dropT := by unfold drops; rw [List.replicate_succ']; simp
theorem drops_len (k : Nat) : (drops k).length = 5 * k := by
  induction k with
  | zero => rfl
  | succ k ih => rw [drops_succ, List.length_append, ih]; simp [dropT]; omega
def dwR : Nat → List (Wd × Nat) → List (Wd × Nat)
  | 0, t => t
  | k + 1, t => wDr :: wS 59 :: dwR k t
theorem dwR_app : ∀ (k : Nat) (t u : List (Wd × Nat)), dwR k t ++ u = dwR k (t ++ u)
  | 0, _, _ => rfl
  | k + 1, t, u => by rw [dwR, dwR, List.cons_append, List.cons_append, dwR_app k t u]
theorem sg_59 (r : List UInt8) : sgn (59 :: r) = [59] := rfl
theorem sg_126 (r : List UInt8) : sgn (126 :: r) = [126] := rfl
theorem sg_40 (r : List UInt8) : sgn (40 :: r) = [40] := rfl
theorem sg_41 (r : List UInt8) : sgn (41 :: r) = [41] := rfl
theorem sg_46 (r : List UInt8) : sgn (46 :: r) = [46] := rfl
theorem sg_123 (r : List UInt8) : sgn (123 :: r) = [123] := rfl
theorem sg_61 (r : List UInt8) : sgn (61 :: 32 :: r) = [61] := rfl
theorem nb_drops (k : Nat) : Nb (drops k ++ [125]) := by
  cases k with
  | zero => exact ⟨125, [], rfl, by decide +kernel, by decide⟩
  | succ k => rw [drops_succ]; exact ⟨100, _, rfl, by decide +kernel, by decide⟩
set_option maxRecDepth 100000 in
theorem tk_end : tk [125] 0 = .ok [wS 125] := by kernel_rfl
theorem tk_drops : ∀ k, tk (drops k ++ [125]) 0 = .ok (dwR k [wS 125])
  | 0 => tk_end
  | k + 1 => by
    have e : drops (k + 1) ++ [125] = [100, 114, 111, 112] ++ 59 :: (drops k ++ [125]) := by rw [drops_succ]; simp [dropT]
    rw [e, tkN0 (by decide +kernel) (by decide) (by decide +kernel) ⟨59, _, rfl, by decide +kernel, by decide⟩, tkS0 (sg_59 _) (by decide +kernel) (nb_drops k), tk_drops k]
    rfl
theorem toks_A (k : Nat) : toks (ctlT ++ drops k ++ [125]) = .ok (wC :: wS 123 :: dwR k [wS 125]) := by
  have e : ctlT ++ drops k ++ [125] = [99, 111, 110, 116, 114, 111, 108] ++ 32 :: 123 :: (drops k ++ [125]) := by simp [ctlT]
  have n1 : Nb ([99, 111, 110, 116, 114, 111, 108] ++ 32 :: 123 :: (drops k ++ [125])) := ⟨99, _, rfl, by decide +kernel, by decide⟩
  unfold toks
  rw [e, n1.skip, Nat.sub_self, tkN1 (by decide +kernel) (by decide) ⟨123, _, rfl, by decide +kernel, by decide⟩, tkS0 (sg_123 _) (by decide +kernel) (nb_drops k), tk_drops k]
  rfl
/- what stands ahead of the expression. -/
def preW : List (Wd × Nat) := [wC, wS 123, wN 104, wS 46, wN 97, wS 61]
theorem toks_pre {t : List UInt8} (ht : Nb t) {ws : List (Wd × Nat)} (h : tk t 0 = .ok ws) : toks (preT ++ t) = .ok (preW ++ ws) := by
  have e : preT ++ t = [99, 111, 110, 116, 114, 111, 108] ++ 32 :: (123 :: 32 :: ([104] ++ 46 :: ([97] ++ 32 :: (61 :: 32 :: t)))) := by simp [preT]
  have n1 : Nb ([99, 111, 110, 116, 114, 111, 108] ++ 32 :: (123 :: 32 :: ([104] ++ 46 :: ([97] ++ 32 :: (61 :: 32 :: t))))) := ⟨99, _, rfl, by decide +kernel, by decide⟩
  have n2 : Nb ([104] ++ 46 :: ([97] ++ 32 :: (61 :: 32 :: t))) := ⟨104, _, rfl, by decide +kernel, by decide⟩
  have n3 : Nb ([97] ++ 32 :: (61 :: 32 :: t)) := ⟨97, _, rfl, by decide +kernel, by decide⟩
  unfold toks
  rw [e, n1.skip, Nat.sub_self, tkN1 (by decide +kernel) (by decide) ⟨123, _, rfl, by decide +kernel, by decide⟩, tkS1 (sg_123 _) (by decide +kernel) n2,
    tkN0 (by decide +kernel) (by decide) (by decide +kernel) ⟨46, _, rfl, by decide +kernel, by decide⟩, tkS0 (sg_46 _) (by decide +kernel) n3,
    tkN1 (by decide +kernel) (by decide) ⟨61, _, rfl, by decide +kernel, by decide⟩, tkS1 (sg_61 _) (by decide +kernel) ht, h]
  rfl
def finT : List UInt8 := [59, 32, 125]
set_option maxRecDepth 100000 in
theorem tk_fin : tk finT 0 = .ok [wS 59, wS 125] := by kernel_rfl
/- signs. -/
theorem nb_til (m : Nat) : Nb (List.replicate m 126 ++ 112 :: finT) := by
  cases m with
  | zero => exact ⟨112, _, rfl, by decide +kernel, by decide⟩
  | succ m => exact ⟨126, List.replicate m 126 ++ 112 :: finT, by rw [List.replicate_succ]; rfl, by decide +kernel, by decide⟩
theorem tk_til : ∀ m, tk (List.replicate m 126 ++ 112 :: finT) 0 = .ok (List.replicate m (wS 126) ++ [wN 112, wS 59, wS 125])
  | 0 => by
    rw [show List.replicate 0 (126 : UInt8) ++ 112 :: finT = [112] ++ 59 :: [32, 125] from rfl, tkN0 (by decide +kernel) (by decide) (by decide +kernel) ⟨59, _, rfl, by decide +kernel, by decide⟩]
    rw [show (59 :: [32, 125] : List UInt8) = finT from rfl, tk_fin]
    rfl
  | m + 1 => by
    rw [List.replicate_succ, List.cons_append, tkS0 (sg_126 _) (by decide +kernel) (nb_til m), tk_til m, List.replicate_succ]
    rfl
theorem toks_F (m : Nat) : toks (preT ++ (List.replicate m 126 ++ 112 :: finT)) = .ok (preW ++ (List.replicate m (wS 126) ++ [wN 112, wS 59, wS 125])) := toks_pre (nb_til m) (tk_til m)
/- brackets. -/
theorem nb_cl (m : Nat) : Nb (List.replicate m 41 ++ finT) := by
  cases m with
  | zero => exact ⟨59, _, rfl, by decide +kernel, by decide⟩
  | succ m => exact ⟨41, List.replicate m 41 ++ finT, by rw [List.replicate_succ]; rfl, by decide +kernel, by decide⟩
theorem tk_cl : ∀ m, tk (List.replicate m 41 ++ finT) 0 = .ok (List.replicate m (wS 41) ++ [wS 59, wS 125])
  | 0 => tk_fin
  | m + 1 => by
    rw [List.replicate_succ, List.cons_append, tkS0 (sg_41 _) (by decide +kernel) (nb_cl m), tk_cl m, List.replicate_succ]
    rfl
theorem tk_pcl (m : Nat) : tk (112 :: (List.replicate m 41 ++ finT)) 0 = .ok (wN 112 :: (List.replicate m (wS 41) ++ [wS 59, wS 125])) := by
  obtain ⟨c, l, e, h1, h2⟩ := nb_cl m
  have hc : isW c = false := by
    cases m with
    | zero => injection e with e1 _; subst e1; decide +kernel
    | succ m => rw [List.replicate_succ] at e; injection e with e1 _; subst e1; decide +kernel
  rw [show (112 :: (List.replicate m 41 ++ finT)) = [112] ++ c :: l by rw [e]; rfl, tkN0 (by decide +kernel) (by decide) hc ⟨c, l, rfl, h1, h2⟩, ← e, tk_cl m]
  rfl
theorem nb_op (m : Nat) (t : List UInt8) : Nb (List.replicate m 40 ++ 112 :: t) := by
  cases m with
  | zero => exact ⟨112, t, rfl, by decide +kernel, by decide⟩
  | succ m => exact ⟨40, List.replicate m 40 ++ 112 :: t, by rw [List.replicate_succ]; rfl, by decide +kernel, by decide⟩
theorem tk_op {t : List UInt8} {ws : List (Wd × Nat)} (h : tk (112 :: t) 0 = .ok ws) : ∀ m, tk (List.replicate m 40 ++ 112 :: t) 0 = .ok (List.replicate m (wS 40) ++ ws)
  | 0 => h
  | m + 1 => by
    rw [List.replicate_succ, List.cons_append, tkS0 (sg_40 _) (by decide +kernel) (nb_op m t), tk_op h m, List.replicate_succ]
    rfl
theorem toks_G (m : Nat) : toks (preT ++ (List.replicate m 40 ++ 112 :: (List.replicate m 41 ++ finT))) = .ok (preW ++ (List.replicate m (wS 40) ++ wN 112 :: (List.replicate m (wS 41) ++ [wS 59, wS 125]))) := toks_pre (nb_op m _) (tk_op (tk_pcl m) m)
end Go.Proofs.YtcfopkaomknmjaaGreatDoor
/- ParseDeep: what its three texts are read as. -/
namespace Go.Proofs.YtcfopkaomknmjaaGreatDoor
open Go.RowKit

/- a list looked at from a place on. -/
theorem at0 {L r : List (Wd × Nat)} {k : Nat} {x : Wd × Nat} (h : L.drop k = x :: r) : L[k]? = some x ∧ L.drop (k + 1) = r ∧ k < L.length := by
  have h1 : (L.drop k)[0]? = some x := by rw [h]; rfl
  rw [List.getElem?_drop, Nat.add_zero] at h1
  refine ⟨h1, ?_, (List.getElem?_eq_some_iff.1 h1).1⟩
  rw [← List.tail_drop, h]; rfl
theorem passed_at {L r : List (Wd × Nat)} {k : Nat} {x : Wd × Nat} {l : List UInt8} (h : L.drop k = x :: r) : passedP l L k = decide (x.1.s = l) := by unfold passedP; rw [(at0 h).1]
theorem pass_at {L r : List (Wd × Nat)} {k : Nat} {x : Wd × Nat} {l : List UInt8} (h : L.drop k = x :: r) (e : x.1.s = l) : passP [l] L k = .ok ((), k + 1) := by
  rw [passP, passed_at h, e, decide_eq_true rfl, if_pos rfl, passP]
theorem word_at {L r : List (Wd × Nat)} {k : Nat} {x : Wd × Nat} (h : L.drop k = x :: r) : wordS L k = x.1.s ∧ lineP L k = x.2 ∧ sP L k = x.1.s ∧ kdP L k = x.1.k := by
  unfold wordS lineP sP kdP; rw [(at0 h).1]; exact ⟨rfl, rfl, rfl, rfl⟩
theorem name_at {L r : List (Wd × Nat)} {k : Nat} {x : Wd × Nat} (h : L.drop k = x :: r) (h1 : x.1.s ∉ kws) (h2 : x.1.k = 1) : nameP L k = .ok (x.1.s, k + 1) := by
  unfold nameP; rw [(at0 h).1]; simp only [if_neg h1, if_pos h2]
theorem bind_at {α β : Type} {a : Pf α} {f : α → Pf β} {L : List (Wd × Nat)} {k k1 : Nat} {x : α} (h : a L k = .ok (x, k1)) : Pf.bind a f L k = f x L k1 := by unfold Pf.bind; rw [h]
/- so many statements. -/
def smD : Sm := smLn (sm0 12) 0
theorem stmt_drop {bl : Pf (List Sm)} {L r : List (Wd × Nat)} {k : Nat} (h : L.drop k = wDr :: wS 59 :: r) : stmtA bl L k = .ok (smD, k + 2) := by
  have h1 := (at0 h).2.1
  obtain ⟨e1, e2, _, _⟩ := word_at h
  have hf : findK (stRows bl) [100, 114, 111, 112] = some (bareP 12) := by simp [stRows, findK]
  unfold stmtA stmtP
  rw [e1, e2, show wDr.1.s = [100, 114, 111, 112] from rfl, hf]
  show ((bareP 12).bind fun s => Pf.ret (smLn s wDr.2)) L (k + 1) = _
  have hb : bareP 12 L (k + 1) = .ok (sm0 12, k + 1 + 1) := by unfold bareP; rw [bind_at (pass_at (l := [59]) h1 rfl)]; rfl
  rw [bind_at hb]
  rfl
theorem until_drops {bl : Pf (List Sm)} {L e : List (Wd × Nat)} : ∀ (j g k : Nat), L.drop k = dwR j (wS 125 :: e) → j < g → untilF [125] (stmtA bl) g L k = .ok (List.replicate j smD, k + 2 * j + 1)
  | _, 0, _, _, hg => by omega
  | 0, g + 1, k, h, _ => by
    rw [untilF, passed_at h, decide_eq_true (show (wS 125).1.s = [125] from rfl), if_pos rfl]; rfl
  | j + 1, g + 1, k, h, hg => by
    have h2 := (at0 (at0 h).2.1).2.1
    rw [untilF, passed_at h, decide_eq_false (show ¬ wDr.1.s = [125] by decide), if_neg (by decide), stmt_drop h]
    simp only
    rw [until_drops j g (k + 2) h2 (by omega)]
    simp only [List.replicate_succ]
    congr 2
    omega
/- one control. -/
def ctlD (b : List Sm) : Dc := dcLn { dc0 9 with body := b } 0
theorem ctl_prog {L r : List (Wd × Nat)} {b : List Sm} {k1 : Nat} {e : Wd × Nat} (h : L = wC :: wS 123 :: r) (hu : untilF [125] (stmtA (blockF (L.length - 2))) (L.length - 1) L 2 = .ok (b, k1)) (he : L.drop k1 = [e]) (h0 : e.1.k = 0) : progA L 0 = .ok ([ctlD b], k1) := by
  have hl : L.length = r.length + 2 := by rw [h]; rfl
  have d0 : L.drop 0 = wC :: wS 123 :: r := by rw [h]; rfl
  have d1 : L.drop 1 = wS 123 :: r := (at0 d0).2.1
  obtain ⟨e1, e2, _, _⟩ := word_at d0
  have hb : blockA L 1 = .ok (b, k1) := by
    unfold blockA
    rw [show L.length - 1 = (L.length - 2) + 1 by omega, blockF]
    unfold blockP
    rw [bind_at (pass_at (l := [123]) d1 rfl)]
    have : untilP [125] (stmtA (blockF (L.length - 2))) L 2 = .ok (b, k1) := by
      unfold untilP
      rw [show L.length + 1 - 2 = L.length - 1 by omega]; exact hu
    rw [bind_at this]; rfl
  have hc : controlP blockA L 1 = .ok ({ dc0 9 with body := b }, k1) := by unfold controlP; rw [bind_at hb]; rfl
  have hf : findK dcRows [99, 111, 110, 116, 114, 111, 108] = some (controlP blockA) := by simp [dcRows, findK]
  have hd : declA L 0 = .ok (ctlD b, k1) := by
    unfold declA declP
    rw [e1, e2, show wC.1.s = [99, 111, 110, 116, 114, 111, 108] from rfl, hf]
    show ((controlP blockA).bind fun s => Pf.ret (dcLn s wC.2)) L 1 = _
    rw [bind_at hc]; rfl
  obtain ⟨x0, _, hk1⟩ := at0 he
  have hp : prF declA L.length L k1 = .ok ([], k1) := prF_end (by omega) x0 h0
  unfold progA programP
  rw [show L.length + 1 - 0 = L.length + 1 by omega, prF]
  simp only [(at0 d0).1]
  rw [if_neg (by decide), hd]
  simp only [hp]
/- parts of so many statements. -/
theorem wrap_s {n : Nat} (h : n ≤ 100000) : IntKind.i64.wrap (n : Int) = (n : Int) := by
  rw [IntKind.wrap_i64]; omega
theorem addT_n {c deep : Nat} {b : Bool} (h : c ≤ 50000) : addT ((c : Int), b) deep = (((c + 1 : Nat) : Int), b || decide (4096 < c + 1) || decide (64 < deep)) := by
  have e : ((c : Int) + 1) = ((c + 1 : Nat) : Int) := by omega
  unfold addT
  simp only
  rw [e, wrap_s (by omega)]
  congr 2
  congr 1
  exact decide_eq_decide.2 (by omega)
theorem smT_D (S : TS) : smT 64 2 smD S = addT S 2 := by
  rw [smT]
  split <;> rfl
theorem fold_D : ∀ (k c : Nat), c + k ≤ 50000 → (List.replicate k smD).foldl (fun S y => smT 64 2 y S) ((c : Int), decide (4096 < c)) = (((c + k : Nat) : Int), decide (4096 < c + k))
  | 0, c, _ => rfl
  | k + 1, c, h => by
    rw [List.replicate_succ, List.foldl_cons, smT_D, addT_n (by omega)]
    have e : (decide (4096 < c) || decide (4096 < c + 1) || decide (64 < 2)) = decide (4096 < c + 1) := by
      by_cases h1 : 4096 < c + 1 <;> simp [h1] <;> omega
    rw [e, fold_D k (c + 1) (by omega)]
    rw [show c + 1 + k = c + (k + 1) by omega]
theorem lim_ctl (b : List Sm) : limT [ctlD b] = (smsT 64 2 b ((1 : Nat), false)).2 := by
  unfold limT
  simp only [List.foldl_cons, List.foldl_nil]
  have e : addT ((0 : Int), false) 1 = (((1 : Nat) : Int), false) := by
    have := addT_n (c := 0) (deep := 1) (b := false) (by omega)
    exact this
  unfold dcT
  show (smsT 64 2 b (addT ((0 : Int), false) 1)).2 = _
  rw [e]
theorem lim_A {k : Nat} (h : k ≤ 10000) : limT [ctlD (List.replicate k smD)] = decide (4096 < k + 1) := by
  rw [lim_ctl]
  unfold smsT
  have := fold_D k 1 (by omega)
  rw [show decide (4096 < 1) = false by decide] at this
  rw [this, Nat.add_comm]
/- the first text. -/
theorem parse_A {k : Nat} (h : k < 5000) : parseL (ctlT ++ drops k ++ [125]) = if 4096 < k + 1 then .error (0, 3) else .ok [ctlD (List.replicate k smD)] := by
  have hl : (ctlT ++ drops k ++ [125]).length ≤ 65536 := by
    rw [List.length_append, List.length_append, drops_len]; simp [ctlT]; omega
  unfold parseL
  rw [if_neg (by omega), toks_A]
  simp only
  generalize hE : endW (wC :: wS 123 :: dwR k [wS 125]) = E
  have hE0 : E.1.k = 0 := by rw [← hE]; rfl
  have hdw : ∀ (j : Nat) (t : List (Wd × Nat)), (dwR j t).length = 2 * j + t.length := by
    intro j t
    induction j with
    | zero => simp [dwR]
    | succ j ih => simp [dwR, ih]; omega
  have hd2 : (wC :: wS 123 :: dwR k [wS 125] ++ [E]).drop 2 = dwR k (wS 125 :: [E]) := by
    show dwR k [wS 125] ++ [E] = _
    rw [dwR_app]; rfl
  have hlen : (wC :: wS 123 :: dwR k [wS 125] ++ [E]).length = 2 * k + 4 := by
    simp [hdw]
  have hp := ctl_prog (L := wC :: wS 123 :: dwR k [wS 125] ++ [E]) (e := E) rfl (until_drops (bl := blockF ((wC :: wS 123 :: dwR k [wS 125] ++ [E]).length - 2)) k ((wC :: wS 123 :: dwR k [wS 125] ++ [E]).length - 1) 2 hd2 (by rw [hlen]; omega)) (by
    have : ∀ (j : Nat) (t : List (Wd × Nat)), (dwR j t).drop (2 * j) = t := by
      intro j t
      induction j with
      | zero => rfl
      | succ j ih => rw [show 2 * (j + 1) = 2 * j + 1 + 1 by omega, dwR, List.drop_succ_cons, List.drop_succ_cons, ih]
    rw [show 2 + 2 * k + 1 = 2 + (2 * k + 1) by omega, ← List.drop_drop, hd2, ← List.drop_drop, this]
    rfl) hE0
  rw [hp]
  simp only
  rw [lim_A (by omega)]
  by_cases hk : 4096 < k + 1 <;> simp [hk]
end Go.Proofs.YtcfopkaomknmjaaGreatDoor
/- ParseDeep: signs and brackets, one within the other. -/
namespace Go.Proofs.YtcfopkaomknmjaaGreatDoor
open Go.RowKit

/- a word behind an expression that ends it. -/
def Ends (y : Wd × Nat) : Prop := y.1.s ≠ [46] ∧ y.1.s ≠ [91] ∧ twoP y.1.s = none
theorem ends_59 : Ends (wS 59) := ⟨by decide, by decide, by decide⟩
theorem ends_41 : Ends (wS 41) := ⟨by decide, by decide, by decide⟩
def xP : Ex := exLn (exN 3 [112] []) 0
theorem prim_p {ch : Nat → Pf Ex} {ca ha : Pf Ex} {L r : List (Wd × Nat)} {k : Nat} {y : Wd × Nat} (h : L.drop k = wN 112 :: y :: r) (hy : Ends y) : primP ch (plainP ca ha) L k = .ok (xP, k + 1) := by
  have h1 := (at0 h).2.1
  obtain ⟨_, e2, _, e4⟩ := word_at h
  have ow : ownerP L k = .ok ([112], k + 1) := by
    unfold ownerP
    rw [passed_at h, decide_eq_false (show ¬ (wN 112).1.s = metaL by decide), if_neg (by decide)]
    exact name_at h (by decide) rfl
  have fo : fopP L k = .ok (exN 3 [112] [], k + 1) := by
    unfold fopP
    rw [ow]
    simp only
    rw [passed_at h1, decide_eq_false hy.1, if_neg (by decide)]
  have pl : plainP ca ha L k = .ok (exN 3 [112] [], k + 1) := by
    unfold plainP
    rw [e4, if_neg (by decide), passed_at h, decide_eq_false (by decide), if_neg (by decide), passed_at h, decide_eq_false (by decide), if_neg (by decide), passed_at h, decide_eq_false (by decide), if_neg (by decide)]
    exact fo
  unfold primP
  rw [passed_at h, decide_eq_false (by decide), if_neg (by decide), pl, e2]
  rfl
theorem post_p {pr : Pf Ex} {L r : List (Wd × Nat)} {k k1 : Nat} {x : Ex} {y : Wd × Nat} (hp : pr L k = .ok (x, k1)) (h : L.drop k1 = y :: r) (hy : Ends y) : postP pr L k = .ok (x, k1) := by
  unfold postP
  rw [hp]
  simp only
  have := (at0 h).2.2
  exact poF_end (by omega) (by rw [passed_at h]; exact decide_eq_false hy.2.1)
theorem un_not {po : Pf Ex} {g : Nat} {L r : List (Wd × Nat)} {k : Nat} {x : Wd × Nat} (hg : 0 < g) (h : L.drop k = x :: r) (hx : x.1.s ≠ [126]) : unF po g L k = po L k := by
  obtain ⟨g, rfl⟩ : ∃ g', g = g' + 1 := ⟨g - 1, by omega⟩
  simp only [unF]
  rw [passed_at h, decide_eq_false hx, if_neg (by decide)]
theorem un_yes {po : Pf Ex} {g : Nat} {L r : List (Wd × Nat)} {k k1 : Nat} {x : Ex} (h : L.drop k = wS 126 :: r) (hp : unF po g L (k + 1) = .ok (x, k1)) : unF po (g + 1) L k = .ok (exOp 11 [x] 0, k1) := by
  simp only [unF]
  rw [passed_at h, decide_eq_true (by rfl), if_pos rfl, hp]
  simp only
  rw [(word_at h).2.1]
  rfl
def nest : Nat → Ex
  | 0 => xP
  | m + 1 => exOp 11 [nest m] 0
theorem un_til {ch : Nat → Pf Ex} {ca ha : Pf Ex} {L r : List (Wd × Nat)} {y : Wd × Nat} (hy : Ends y) : ∀ (m g k : Nat), L.drop k = List.replicate m (wS 126) ++ wN 112 :: y :: r → m < g → unF (postP (primP ch (plainP ca ha))) g L k = .ok (nest m, k + m + 1)
  | 0, g, k, h, hg => by
    have h' : L.drop k = wN 112 :: y :: r := h
    rw [un_not hg h' (by decide)]
    exact post_p (prim_p h' hy) (at0 h').2.1 hy
  | m + 1, 0, k, h, hg => by omega
  | m + 1, g + 1, k, h, hg => by
    rw [List.replicate_succ, List.cons_append] at h
    have ih := un_til (ch := ch) (ca := ca) (ha := ha) hy m g (k + 1) (at0 h).2.1 (by omega)
    rw [un_yes h ih, nest]
    congr 2
    omega
theorem chain_of {f : Nat} {L r : List (Wd × Nat)} {k k1 : Nat} {x : Ex} {y : Wd × Nat} (hu : unOf (chainF f) L k = .ok (x, k1)) (h : L.drop k1 = y :: r) (hy : Ends y) : chainF (f + 1) 0 L k = .ok (x, k1) := by
  rw [chainF]
  unfold chainG
  rw [hu]
  simp only
  have := (at0 h).2.2
  exact chL_none (by omega) (by rw [(word_at h).2.2.1]; exact hy.2.2)
theorem drop_len {α : Type} {L a t : List α} {k n : Nat} (h : L.drop k = a ++ t) (hn : a.length = n) : L.drop (k + n) = t := by
  rw [← List.drop_drop, h, ← hn, List.drop_left]
theorem expr_til {L r : List (Wd × Nat)} {y : Wd × Nat} (hy : Ends y) {m k : Nat} (h : L.drop k = List.replicate m (wS 126) ++ wN 112 :: y :: r) : exprP L k = .ok (nest m, k + m + 1) := by
  have hl : L.length - k = m + 2 + r.length := by
    have := congrArg List.length h
    simp at this; omega
  unfold exprP
  rw [show L.length - k = (m + 1 + r.length) + 1 by omega]
  refine chain_of (y := y) (r := r) ?_ ?_ hy
  · unfold unOf
    exact un_til hy m (L.length + 1 - k) k h (by omega)
  · have h2 : L.drop k = (List.replicate m (wS 126) ++ [wN 112]) ++ y :: r := by rw [h]; simp
    have := drop_len h2 (n := m + 1) (by simp)
    exact this
theorem chain_br : ∀ (m f k : Nat) {L r : List (Wd × Nat)} {y : Wd × Nat}, Ends y → L.drop k = List.replicate m (wS 40) ++ wN 112 :: (List.replicate m (wS 41) ++ y :: r) → m < f → chainF f 0 L k = .ok (xP, k + 2 * m + 1)
  | m, 0, _, _, _, _, _, _, hf => by omega
  | 0, f + 1, k, L, r, y, hy, h, _ => by
    have h' : L.drop k = wN 112 :: y :: r := h
    have hk := (at0 h').2.2
    refine chain_of (y := y) (r := r) ?_ (at0 h').2.1 hy
    unfold unOf
    rw [un_not (by omega) h' (by decide)]
    exact post_p (prim_p h' hy) (at0 h').2.1 hy
  | m + 1, f + 1, k, L, r, y, hy, h, hf => by
    have h0 : L.drop k = wS 40 :: (List.replicate m (wS 40) ++ wN 112 :: (List.replicate m (wS 41) ++ wS 41 :: y :: r)) := by
      rw [h, List.replicate_succ, List.cons_append, List.replicate_succ']; simp
    have hk := (at0 h0).2.2
    have h1 := (at0 h0).2.1
    have ih := chain_br m f (k + 1) ends_41 h1 (by omega)
    have h2 : L.drop (k + 1 + 2 * m + 1) = wS 41 :: y :: r := by
      have h3 : L.drop (k + 1) = (List.replicate m (wS 40) ++ wN 112 :: List.replicate m (wS 41)) ++ wS 41 :: y :: r := by rw [h1]; simp
      have := drop_len h3 (n := 2 * m + 1) (by simp; omega)
      exact this
    have h4 := (at0 h2).2.1
    refine chain_of (y := y) (r := r) (k1 := k + 2 * (m + 1) + 1) ?_ (by rw [show k + 2 * (m + 1) + 1 = k + 1 + 2 * m + 1 + 1 by omega]; exact h4) hy
    unfold unOf
    rw [un_not (by omega) h0 (by decide)]
    refine post_p (y := y) (r := r) ?_ (by rw [show k + 2 * (m + 1) + 1 = k + 1 + 2 * m + 1 + 1 by omega]; exact h4) hy
    unfold primP
    rw [passed_at h0, decide_eq_true (by rfl), if_pos rfl, bind_at ih, bind_at (pass_at (l := [41]) h2 rfl)]
    show Except.ok (xP, k + 1 + 2 * m + 1 + 1) = _
    congr 2
    omega
theorem expr_br {L r : List (Wd × Nat)} {y : Wd × Nat} (hy : Ends y) {m k : Nat} (h : L.drop k = List.replicate m (wS 40) ++ wN 112 :: (List.replicate m (wS 41) ++ y :: r)) : exprP L k = .ok (xP, k + 2 * m + 1) := by
  have hl : L.length - k = 2 * m + 2 + r.length := by
    have := congrArg List.length h
    simp at this; omega
  unfold exprP
  exact chain_br m _ k hy h (by omega)
/- the statement around it. -/
def smX (x : Ex) : Sm := smLn { sm0 1 with name := [104], field := [97], args := [x] } 0
theorem stmt_set {bl : Pf (List Sm)} {L r : List (Wd × Nat)} {k k1 : Nat} {x : Ex} (h : L.drop k = wN 104 :: wS 46 :: wN 97 :: wS 61 :: r) (hx : exprP L (k + 4) = .ok (x, k1)) {r2 : List (Wd × Nat)} (h2 : L.drop k1 = wS 59 :: r2) : stmtA bl L k = .ok (smX x, k1 + 1) := by
  have h1 := (at0 h).2.1
  have h3 := (at0 h1).2.1
  have h4 := (at0 h3).2.1
  obtain ⟨e1, e2, _, _⟩ := word_at h
  have hf : findK (stRows bl) [104] = none := by simp [stRows, findK]
  have ow : ownerP L k = .ok ([104], k + 1) := by
    unfold ownerP
    rw [passed_at h, decide_eq_false (show ¬ (wN 104).1.s = metaL by decide), if_neg (by decide)]
    exact name_at h (by decide) rfl
  have fo : fieldOfP L (k + 1) = .ok ([97], k + 3) := by
    unfold fieldOfP
    rw [bind_at (pass_at (l := [46]) h1 rfl), bind_at (name_at h3 (by decide) rfl)]
    rfl
  have cl : closedP exprP L (k + 4) = .ok (x, k1 + 1) := by
    unfold closedP
    rw [bind_at hx, bind_at (pass_at (l := [59]) h2 rfl)]
    rfl
  have sc : setOrCallP exprP brE L k = .ok ({ sm0 1 with name := [104], field := [97], args := [x] }, k1 + 1) := by
    unfold setOrCallP
    rw [bind_at ow]
    unfold ifIs
    rw [if_neg (by rw [passed_at h1, decide_eq_false (show ¬ (wS 46).1.s = [40] by decide)]; simp), bind_at fo, bind_at (pass_at (l := [61]) h4 rfl), bind_at cl]
    rfl
  unfold stmtA stmtP
  rw [e1, e2, show (wN 104).1.s = [104] from rfl, hf]
  show ((setOrCallP exprP brE).bind fun s => Pf.ret (smLn s (wN 104).2)) L k = _
  rw [bind_at sc]
  rfl
theorem prog_set {ws : List (Wd × Nat)} {x : Ex} {n : Nat} {E : Wd × Nat} (hE : E.1.k = 0) (hn : ws.length = n) (hx : ∀ L : List (Wd × Nat), L.drop 6 = ws ++ wS 59 :: wS 125 :: [E] → exprP L 6 = .ok (x, 6 + n)) : progA (preW ++ (ws ++ [wS 59, wS 125]) ++ [E]) 0 = .ok ([ctlD [smX x]], 6 + n + 2) := by
  have eL : preW ++ (ws ++ [wS 59, wS 125]) ++ [E] = wC :: wS 123 :: (wN 104 :: wS 46 :: wN 97 :: wS 61 :: (ws ++ wS 59 :: wS 125 :: [E])) := by simp [preW]
  rw [eL]
  generalize hL : wC :: wS 123 :: (wN 104 :: wS 46 :: wN 97 :: wS 61 :: (ws ++ wS 59 :: wS 125 :: [E])) = L
  have d2 : L.drop 2 = wN 104 :: wS 46 :: wN 97 :: wS 61 :: (ws ++ wS 59 :: wS 125 :: [E]) := by rw [← hL]; rfl
  have d6 : L.drop 6 = ws ++ wS 59 :: wS 125 :: [E] := by rw [← hL]; rfl
  have d7 : L.drop (6 + n) = wS 59 :: wS 125 :: [E] := drop_len d6 hn
  have d8 := (at0 d7).2.1
  have d9 := (at0 d8).2.1
  have hlen : L.length = n + 9 := by rw [← hL]; simp [hn]
  have st : stmtA (blockF (L.length - 2)) L 2 = .ok (smX x, 6 + n + 1) := stmt_set d2 (hx L d6) d7
  refine ctl_prog hL.symm ?_ d9 hE
  rw [show L.length - 1 = (n + 6) + 1 + 1 by omega, untilF, passed_at d2, decide_eq_false (by decide), if_neg (by decide), st]
  simp only
  rw [untilF, passed_at d8, decide_eq_true (by rfl), if_pos rfl]
theorem exT_nest : ∀ (m f deep c : Nat), f + deep = 66 → deep ≤ 65 → c + m ≤ 4000 → (exT f deep (nest m) ((c : Int), false)).2 = decide (64 < deep + m)
  | m, 0, deep, c, h1, h2, _ => by omega
  | 0, f + 1, deep, c, h1, h2, h3 => by
    rw [exT, addT_n (by omega)]
    have e : decide (4096 < c + 1) = false := decide_eq_false (by omega)
    simp only [e, Bool.false_or]
    split
    · rfl
    · rfl
  | m + 1, f + 1, deep, c, h1, h2, h3 => by
    rw [exT, addT_n (by omega)]
    have e : decide (4096 < c + 1) = false := decide_eq_false (by omega)
    simp only [e, Bool.false_or]
    by_cases hd : 64 < deep
    · rw [if_pos (decide_eq_true hd)]
      rw [decide_eq_true hd]
      exact (decide_eq_true (by omega)).symm
    · rw [if_neg (by simp [hd]), decide_eq_false hd]
      show (exT f (deep + 1) (nest m) (((c + 1 : Nat) : Int), false)).2 = _
      rw [exT_nest m f (deep + 1) (c + 1) (by omega) (by omega) (by omega)]
      rw [show deep + 1 + m = deep + (m + 1) by omega]
theorem lim_X {m : Nat} (h : m ≤ 1000) : limT [ctlD [smX (nest m)]] = decide (64 < m + 3) := by
  rw [lim_ctl]
  unfold smsT
  simp only [List.foldl_cons, List.foldl_nil]
  rw [smT, addT_n (by omega)]
  rw [if_neg (by decide)]
  simp only [smX, smLn, sm0, List.foldl_nil, exsT, List.foldl_cons]
  have e0 : (false || decide (4096 < 1 + 1) || decide (64 < 2)) = false := by decide
  rw [e0]
  rw [exT_nest m 63 3 (1 + 1) (by omega) (by omega) (by omega), Nat.add_comm]
/- the other two texts. -/
theorem parse_F {m : Nat} (h : m < 256) : parseL (preT ++ (List.replicate m 126 ++ 112 :: finT)) = if 64 < m + 3 then .error (0, 3) else .ok [ctlD [smX (nest m)]] := by
  have hl : (preT ++ (List.replicate m 126 ++ 112 :: finT)).length ≤ 65536 := by simp [preT, finT]; omega
  unfold parseL
  rw [if_neg (by omega), toks_F]
  simp only
  generalize hE : endW _ = E
  have hE0 : E.1.k = 0 := by rw [← hE]; rfl
  have eW : preW ++ (List.replicate m (wS 126) ++ [wN 112, wS 59, wS 125]) = preW ++ ((List.replicate m (wS 126) ++ [wN 112]) ++ [wS 59, wS 125]) := by simp
  rw [eW, prog_set (n := m + 1) (x := nest m) hE0 (by simp) (fun L hL => by
    have := expr_til (L := L) (r := wS 125 :: [E]) (m := m) (k := 6) ends_59 (by rw [hL]; simp)
    exact this)]
  simp only
  rw [lim_X (by omega)]
  by_cases hk : 64 < m + 3 <;> simp [hk]
theorem parse_G {m : Nat} (h : m < 256) : parseL (preT ++ (List.replicate m 40 ++ 112 :: (List.replicate m 41 ++ finT))) = .ok [ctlD [smX xP]] := by
  have hl : (preT ++ (List.replicate m 40 ++ 112 :: (List.replicate m 41 ++ finT))).length ≤ 65536 := by simp [preT, finT]; omega
  unfold parseL
  rw [if_neg (by omega), toks_G]
  simp only
  generalize hE : endW _ = E
  have hE0 : E.1.k = 0 := by rw [← hE]; rfl
  have eW : preW ++ (List.replicate m (wS 40) ++ wN 112 :: (List.replicate m (wS 41) ++ [wS 59, wS 125])) = preW ++ ((List.replicate m (wS 40) ++ wN 112 :: List.replicate m (wS 41)) ++ [wS 59, wS 125]) := by simp
  rw [eW, prog_set (n := 2 * m + 1) (x := xP) hE0 (by simp; omega) (fun L hL => by
    have := expr_br (L := L) (r := wS 125 :: [E]) (m := m) (k := 6) ends_59 (by rw [hL]; simp)
    exact this)]
  simp only
  have : limT [ctlD [smX xP]] = false := lim_X (m := 0) (by omega)
  rw [this]
  simp
end Go.Proofs.YtcfopkaomknmjaaGreatDoor
/- ParseDeep, walked. -/
namespace Go.Proofs.YtcfopkaomknmjaaGreatDoor
open Go.RowKit

theorem catD (a b : List UInt8) : txt a ++ txt b = txt (a ++ b) := by
  apply ByteArray.ext
  rw [ByteArray.data_append]
  unfold txt
  simp
/- what stands for a text's reading in this law: the number of its refusal alone. -/
def Ends3 (n most : Nat) (e : Int) : Prop := (e = 0 ∧ n ≤ most) ∨ (e = 3 ∧ most < n)
def Reads3 (s : List UInt8) (e : Int) : Prop := ∀ (W : World) (bt : Nat) (T : ByteArray), Ls W → Tws W bt → T = txt s → Calls Tryz.prog 8 #[.string T] W fun r w' => ∃ v1 v2, r = .returned (.tuple #[v1, v2, .int .i64 e]) ∧ Below W.heap.size W w'
theorem reads_err {s : List UInt8} {x : Nat × Nat} (h : parseL s = .error x) (hl : s.length ≤ 65536) : Reads3 s (x.2 : Int) := by
  intro W bt T hLs hTw hT
  refine (parse_err h hl T hT W hLs hTw).mono ?_
  rintro e w' ⟨rfl, hb⟩
  exact ⟨_, _, rfl, hb⟩
theorem reads_ok {s : List UInt8} {ds : List Dc} (h : parseL s = .ok ds) (hl : s.length ≤ 65536) : Reads3 s 0 := by
  intro W bt T hLs hTw hT
  refine (parse_ok h hl T hT W hLs hTw).mono ?_
  rintro e w' ⟨v, rfl, _, hb⟩
  exact ⟨_, _, rfl, hb⟩
theorem reads_A {k : Nat} (h : k < 5000) : ∃ e, Ends3 (k + 1) 4096 e ∧ Reads3 (ctlT ++ drops k ++ [125]) e := by
  have hl : (ctlT ++ drops k ++ [125]).length ≤ 65536 := by
    rw [List.length_append, List.length_append, drops_len]; simp [ctlT]; omega
  have hp := parse_A h
  by_cases hk : 4096 < k + 1
  · rw [if_pos hk] at hp
    exact ⟨3, .inr ⟨rfl, hk⟩, reads_err hp hl⟩
  · rw [if_neg hk] at hp
    exact ⟨0, .inl ⟨rfl, by omega⟩, reads_ok hp hl⟩
theorem reads_F {m : Nat} (h : m < 256) : ∃ e, Ends3 (m + 3) 64 e ∧ Reads3 (preT ++ (List.replicate m 126 ++ 112 :: finT)) e := by
  have hl : (preT ++ (List.replicate m 126 ++ 112 :: finT)).length ≤ 65536 := by simp [preT, finT]; omega
  have hp := parse_F h
  by_cases hk : 64 < m + 3
  · rw [if_pos hk] at hp
    exact ⟨3, .inr ⟨rfl, hk⟩, reads_err hp hl⟩
  · rw [if_neg hk] at hp
    exact ⟨0, .inl ⟨rfl, by omega⟩, reads_ok hp hl⟩
theorem reads_G {m : Nat} (h : m < 256) : Reads3 (preT ++ (List.replicate m 40 ++ 112 :: (List.replicate m 41 ++ finT))) 0 := reads_ok (parse_G h) (by simp [preT, finT]; omega)
theorem rep_snoc (m : Nat) (c : UInt8) : txt (List.replicate m c) ++ (⟨#[c]⟩ : ByteArray) = txt (List.replicate (m + 1) c) := by
  rw [show (⟨#[c]⟩ : ByteArray) = txt [c] from rfl, catD, List.replicate_succ']
theorem txt_drops (k : Nat) : txt (ctlT ++ drops k) ++ (⟨#[100, 114, 111, 112, 59]⟩ : ByteArray) = txt (ctlT ++ drops (k + 1)) := by
  rw [show (⟨#[100, 114, 111, 112, 59]⟩ : ByteArray) = txt dropT from rfl, catD, drops_snoc, List.append_assoc]
theorem txt_A (k : Nat) : txt (ctlT ++ drops k) ++ (⟨#[125]⟩ : ByteArray) = txt (ctlT ++ drops k ++ [125]) := by
  rw [show (⟨#[125]⟩ : ByteArray) = txt [125] from rfl, catD]
theorem txt_F (m : Nat) : ((⟨#[99, 111, 110, 116, 114, 111, 108, 32, 123, 32, 104, 46, 97, 32, 61, 32]⟩ : ByteArray) ++ txt (List.replicate m 126)) ++ (⟨#[112, 59, 32, 125]⟩ : ByteArray) = txt (preT ++ (List.replicate m 126 ++ 112 :: finT)) := by
  rw [show (⟨#[99, 111, 110, 116, 114, 111, 108, 32, 123, 32, 104, 46, 97, 32, 61, 32]⟩ : ByteArray) = txt preT from rfl, show (⟨#[112, 59, 32, 125]⟩ : ByteArray) = txt (112 :: finT) from rfl, catD, catD, List.append_assoc]
theorem txt_G (m : Nat) : ((((⟨#[99, 111, 110, 116, 114, 111, 108, 32, 123, 32, 104, 46, 97, 32, 61, 32]⟩ : ByteArray) ++ txt (List.replicate m 40)) ++ (⟨#[112]⟩ : ByteArray)) ++ txt (List.replicate m 41)) ++ (⟨#[59, 32, 125]⟩ : ByteArray) = txt (preT ++ (List.replicate m 40 ++ 112 :: (List.replicate m 41 ++ finT))) := by
  rw [show (⟨#[99, 111, 110, 116, 114, 111, 108, 32, 123, 32, 104, 46, 97, 32, 61, 32]⟩ : ByteArray) = txt preT from rfl, show (⟨#[112]⟩ : ByteArray) = txt [112] from rfl, show (⟨#[59, 32, 125]⟩ : ByteArray) = txt finT from rfl, catD, catD, catD, catD]
  simp
set_option maxRecDepth 100000 in
set_option maxHeartbeats 8000000 in
theorem deep_any (w : World) (n d b : Nat) (hn : n < 65536) (hd : d < 256) (hb : b < 256) {bt : Nat} (hLs : Ls w) (hTw : Tws w bt) :
    Calls Tryz.prog 6 #[.int .u16 (n : Int), .int .u8 (d : Int), .int .u8 (b : Int)] w fun e w' => e = .returned (.bool true) ∧ Below w.heap.size w w' := by
  obtain ⟨k, hk⟩ : ∃ k, k = n % 5000 := ⟨_, rfl⟩
  have hk5 : k < 5000 := by omega
  have hnk : ((n : Int)).tmod 5000 = (k : Int) := by rw [Int.tmod_eq_emod_of_nonneg (by omega)]; omega
  obtain ⟨eA, hA1, hA⟩ := reads_A hk5
  obtain ⟨eF, hF1, hF⟩ := reads_F hd
  have hG := reads_G hb
  have HA := hide (fun W T (hb : Below w.heap.size w W) hT => hA W bt T (hLs.below hb) (hTw.below hb) hT)
  have HF := hide (fun W T (hb : Below w.heap.size w W) hT => hF W bt T (hLs.below hb) (hTw.below hb) hT)
  have HG := hide (fun W T (hb : Below w.heap.size w W) hT => hG W bt T (hLs.below hb) (hTw.below hb) hT)
  have HAl := hide (fun W (hb : Below w.heap.size w W) => alive8_any W (hLs.below hb) (hTw.below hb))
  have E1 := hide hA1
  have E2 := hide hF1
  clear hLs hTw hk hA hF hG hA1 hF1
  go_enter Tryz.func6, Tryz.ntmps6
  go_wp2
  go_loop [8, 9] (fun vs vi => ∃ (j : Nat) (A : ByteArray), vs = .string A ∧ vi = .int .i64 (j : Int) ∧ j ≤ k ∧ A.size = 9 + 5 * j ∧ Hid (A = txt (ctlT ++ drops j))) (fun _ vi => k - (intOf vi).toNat)
  case atStart => exact ⟨0, _, rfl, rfl, by omega, rfl, rfl⟩
  case round =>
    obtain ⟨j, A, rfl, rfl, hj, hAz, HAj⟩ := hrel
    by_cases hlt : j < k
    · have hI : (j : Int) < (k : Int) := by omega
      have hs : ¬ 9223372036854775807 < A.size + 5 := by omega
      have HAn : Hid (A ++ ⟨#[100, 114, 111, 112, 59]⟩ = txt (ctlT ++ drops (j + 1))) := by
        unfold Hid
        rw [HAj.out, txt_drops]
      have hAn : (A ++ ⟨#[100, 114, 111, 112, 59]⟩ : ByteArray).size = 9 + 5 * (j + 1) := by
        rw [ByteArray.size_append, hAz]; rfl
      clear HAj
      go_wp2
      exact ⟨⟨j + 1, _, rfl, by congr 1, by omega, hAn, HAn⟩, by simp [intOf]; omega⟩
    · have hI : ¬ (j : Int) < (k : Int) := by omega
      obtain rfl : j = k := by omega
      clear hlt
      go_wp2
      go_loop [10, 13] (fun vs vi => ∃ (i : Nat) (B : ByteArray), vs = .string B ∧ vi = .int .i64 (i : Int) ∧ i ≤ d ∧ B.size = i ∧ Hid (B = txt (List.replicate i 126))) (fun _ vi => d - (intOf vi).toNat)
      case atStart => exact ⟨0, _, rfl, rfl, by omega, rfl, rfl⟩
      case round =>
        obtain ⟨i, B, rfl, rfl, hi, hBz, HBi⟩ := hrel
        by_cases hlt : i < d
        · have hI2 : (i : Int) < (d : Int) := by omega
          have hs : ¬ 9223372036854775807 < B.size + 1 := by omega
          have HBn : Hid (B ++ ⟨#[126]⟩ = txt (List.replicate (i + 1) 126)) := by
            unfold Hid
            rw [HBi.out, rep_snoc]
          have hBn : (B ++ ⟨#[126]⟩ : ByteArray).size = i + 1 := by
            rw [ByteArray.size_append, hBz]; rfl
          clear HBi
          go_wp2
          exact ⟨⟨i + 1, _, rfl, by congr 1, by omega, hBn, HBn⟩, by simp [intOf]; omega⟩
        · have hI2 : ¬ (i : Int) < (d : Int) := by omega
          obtain rfl : i = d := by omega
          clear hlt
          go_wp2
          go_loop [11, 12, 14] (fun vs vt vi => ∃ (i : Nat) (C D : ByteArray), vs = .string C ∧ vt = .string D ∧ vi = .int .i64 (i : Int) ∧ i ≤ b ∧ C.size = i ∧ D.size = i ∧ Hid (C = txt (List.replicate i 40)) ∧ Hid (D = txt (List.replicate i 41))) (fun _ _ vi => b - (intOf vi).toNat)
          case atStart => exact ⟨0, _, _, rfl, rfl, rfl, by omega, rfl, rfl, rfl, rfl⟩
          case round =>
            obtain ⟨h, C, D, rfl, rfl, rfl, hh, hCz, hDz, HC, HD⟩ := hrel
            by_cases hlt : h < b
            · have hI3 : (h : Int) < (b : Int) := by omega
              have hs : ¬ 9223372036854775807 < C.size + 1 := by omega
              have hs2 : ¬ 9223372036854775807 < D.size + 1 := by omega
              have HCn : Hid (C ++ ⟨#[40]⟩ = txt (List.replicate (h + 1) 40)) := by
                unfold Hid
                rw [HC.out, rep_snoc]
              have HDn : Hid (D ++ ⟨#[41]⟩ = txt (List.replicate (h + 1) 41)) := by
                unfold Hid
                rw [HD.out, rep_snoc]
              have hCn : (C ++ ⟨#[40]⟩ : ByteArray).size = h + 1 := by
                rw [ByteArray.size_append, hCz]; rfl
              have hDn : (D ++ ⟨#[41]⟩ : ByteArray).size = h + 1 := by
                rw [ByteArray.size_append, hDz]; rfl
              clear HC HD
              go_wp2
              exact ⟨⟨h + 1, _, _, rfl, rfl, by congr 1, by omega, hCn, hDn, HCn, HDn⟩, by simp [intOf]; omega⟩
            · have hI3 : ¬ (h : Int) < (b : Int) := by omega
              obtain rfl : h = b := by omega
              clear hlt
              have TA : Hid (A ++ ⟨#[125]⟩ = txt (ctlT ++ drops j ++ [125])) := by
                unfold Hid; rw [HAj.out, txt_A]
              have TF : Hid ((⟨#[99, 111, 110, 116, 114, 111, 108, 32, 123, 32, 104, 46, 97, 32, 61, 32]⟩ ++ B) ++ ⟨#[112, 59, 32, 125]⟩ = txt (preT ++ (List.replicate i 126 ++ 112 :: finT))) := by
                unfold Hid; rw [HBi.out, txt_F]
              have TG : Hid ((((⟨#[99, 111, 110, 116, 114, 111, 108, 32, 123, 32, 104, 46, 97, 32, 61, 32]⟩ ++ C) ++ ⟨#[112]⟩) ++ D) ++ ⟨#[59, 32, 125]⟩ = txt (preT ++ (List.replicate h 40 ++ 112 :: (List.replicate h 41 ++ finT)))) := by
                unfold Hid; rw [HC.out, HD.out, txt_G]
              clear HAj HBi HC HD
              have z1 : ¬ 9223372036854775807 < A.size + 1 := by omega
              have z2 : ¬ 9223372036854775807 < 16 + B.size := by omega
              have z3 : ¬ 9223372036854775807 < 16 + B.size + 4 := by omega
              have z4 : ¬ 9223372036854775807 < 16 + C.size := by omega
              have z5 : ¬ 9223372036854775807 < 16 + C.size + 1 := by omega
              have z6' : ¬ 9223372036854775807 < 16 + C.size + 1 + D.size := by omega
              have z7 : ¬ 9223372036854775807 < 16 + C.size + 1 + D.size + 3 := by omega
              go_wp2_with fail
              refine (HA.out _ _ (Below.refl _ _) TA.out).mono ?_
              rintro e w1 ⟨v1, v2, rfl, hb1⟩
              have B1 := hide hb1
              clear hb1 TA
              go_wp2_with fail
              refine (HF.out _ _ B1.out TF.out).mono ?_
              rintro e w2 ⟨v3, v4, rfl, hb2⟩
              have B2 := hide (B1.out.trans (hb2.mono B1.out.size))
              clear hb2 TF B1
              go_wp2_with fail
              refine (HG.out _ _ B2.out TG.out).mono ?_
              rintro e w3 ⟨v5, v6, rfl, hb3⟩
              have B3 := hide (B2.out.trans (hb3.mono B2.out.size))
              clear hb3 TG B2
              go_wp2_with fail
              refine (HAl.out _ B3.out).mono ?_
              rintro e w4 ⟨rfl, hb4⟩
              have B4 := hide (B3.out.trans (hb4.mono B3.out.size))
              clear hb4 B3
              rcases E1.out with ⟨rfl, h1⟩ | ⟨rfl, h1⟩
              · have i1 : (j : Int) + 1 ≤ 4096 := by omega
                rcases E2.out with ⟨rfl, h2⟩ | ⟨rfl, h2⟩
                · have i2 : (i : Int) + 3 ≤ 64 := by omega
                  go_wp2
                  go_ret
                  exact ⟨rfl, B4.out⟩
                · have i2 : ¬ (i : Int) + 3 ≤ 64 := by omega
                  go_wp2
                  go_ret
                  exact ⟨by show Ending.returned (.bool (!decide ((i : Int) + 3 ≤ 64))) = _; rw [decide_eq_false (Int.not_le.2 i2)]; rfl, B4.out⟩
              · have i1 : ¬ (j : Int) + 1 ≤ 4096 := by omega
                rcases E2.out with ⟨rfl, h2⟩ | ⟨rfl, h2⟩
                · have i2 : (i : Int) + 3 ≤ 64 := by omega
                  go_wp2
                  go_ret
                  exact ⟨by show Ending.returned (.bool (!decide ((j : Int) + 1 ≤ 4096))) = _; rw [decide_eq_false (Int.not_le.2 i1)]; rfl, B4.out⟩
                · have i2 : ¬ (i : Int) + 3 ≤ 64 := by omega
                  go_wp2
                  go_ret
                  exact ⟨by show Ending.returned (.bool (!decide ((j : Int) + 1 ≤ 4096) && !decide ((i : Int) + 3 ≤ 64))) = _; rw [decide_eq_false (Int.not_le.2 i1), decide_eq_false (Int.not_le.2 i2)]; rfl, B4.out⟩
end Go.Proofs.YtcfopkaomknmjaaGreatDoor
