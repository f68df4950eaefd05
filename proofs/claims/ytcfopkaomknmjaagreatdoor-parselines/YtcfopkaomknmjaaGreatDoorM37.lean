/- Pieces of the proof: PLd, LBm, LNm, PaPr. -/
import Derived.Test.YtcfopkaomknmjaaGreatDoorM36
import Derived.Test.YtcfopkaomknmjaaGreatDoorM18
import Derived.Test.YtcfopkaomknmjaaGreatDoorM34
import Derived.Defers
import Derived.Recover
/- ParseLines: the words of its texts, and what they are read as. -/
namespace Go.Proofs.YtcfopkaomknmjaaGreatDoor
open Go.RowKit

/- words, each in a line of its own. -/
def num : Nat → List Wd → List (Wd × Nat)
  | _, [] => []
  | n, y :: ys => (y, n) :: num (n + 1) ys
theorem num_len : ∀ (ws : List Wd) (n : Nat), (num n ws).length = ws.length
  | [], _ => rfl
  | _ :: ws, n => by rw [num, List.length_cons, num_len ws, List.length_cons]
theorem num_at : ∀ (ws : List Wd) (n j : Nat), (num n ws)[j]? = (ws[j]?).map fun y => (y, n + j)
  | [], _, _ => by simp [num]
  | y :: ws, n, 0 => by simp [num]
  | y :: ws, n, j + 1 => by
    rw [num, List.getElem?_cons_succ, num_at ws (n + 1) j, List.getElem?_cons_succ]
    rw [show n + 1 + j = n + (j + 1) by omega]
theorem num_fst : ∀ (ws : List Wd) (n : Nat), (num n ws).map (·.1) = ws
  | [], _ => rfl
  | y :: ws, n => by rw [num, List.map_cons, num_fst ws]
theorem shift_num (d : Nat) : ∀ (ws : List Wd) (n : Nat), (num n ws).map (fun x => (x.1, x.2 + d)) = num (n + d) ws
  | [], _ => rfl
  | y :: ws, n => by
    rw [num, List.map_cons, shift_num d ws, num]
    rw [show n + 1 + d = n + d + 1 by omega]
def ahT (ws : List Wd) : List UInt8 := (ws.map fun y => toldW y ++ [10]).flatten
theorem ahT_snoc (ws : List Wd) (y : Wd) : ahT (ws ++ [y]) = ahT ws ++ toldW y ++ [10] := by
  unfold ahT; simp
theorem toks_one1 {y : Wd} (h : Good y) : toks (toldW y) = .ok [(y, 0)] := by
  have := toks_ag [y] (by simpa using h)
  have e : ag [y] = toldW y := by simp [ag, tl]
  rw [e] at this
  exact this
theorem toks_nil : toks [] = .ok [] := by
  unfold toks
  have : skip [] = [] := skip_of rfl rfl
  rw [this]; exact tk_nil _
theorem toks_ah : ∀ (ws : List Wd), (∀ y ∈ ws, Good y) → toks (ahT ws) = .ok (num 0 ws)
  | [], _ => toks_nil
  | y :: ws, h => by
    have e : ahT (y :: ws) = toldW y ++ 10 :: ahT ws := by unfold ahT; simp
    rw [e, toks_join, toks_one1 (h y (by simp)), toks_ah ws (fun z hz => h z (by simp [hz])), told_10 (h y (by simp))]
    show LR.app [(y, 0)] (.ok ((num 0 ws).map fun x => (x.1, x.2 + (0 + 1)))) = _
    rw [shift_num]
    rfl
/- rows of words with their end. -/
def Lx (xs : List (Wd × Nat)) : List (Wd × Nat) := xs ++ [endW xs]
theorem Lx_len (xs : List (Wd × Nat)) : (Lx xs).length = xs.length + 1 := by simp [Lx]
theorem Lx_lt {xs : List (Wd × Nat)} {j : Nat} (h : j < xs.length) : (Lx xs)[j]? = xs[j]? := by unfold Lx; rw [List.getElem?_append_left h]
theorem Lx_end (xs : List (Wd × Nat)) : (Lx xs)[xs.length]? = some (endW xs) := by unfold Lx; rw [List.getElem?_append_right (Nat.le_refl _)]; simp
theorem Lx_le (xs : List (Wd × Nat)) : Le (Lx xs) := by
  intro k x hx hn
  have hk : k < (Lx xs).length := (List.getElem?_eq_some_iff.1 hx).1
  rw [Lx_len] at hk ⊢
  by_cases e : k = xs.length
  · subst e
    rw [Lx_end] at hx
    injection hx with hx
    subst hx
    rcases hn with hn | hn <;> exact absurd rfl hn
  · omega
theorem Lx_ag {xs ys : List (Wd × Nat)} (h : xs.map (·.1) = ys.map (·.1)) (n : Nat) : Ag (Lx xs) (Lx ys) n := by
  intro j _
  have e : (Lx xs).map (·.1) = (Lx ys).map (·.1) := by unfold Lx; rw [List.map_append, List.map_append, h]; rfl
  rw [← List.getElem?_map, ← List.getElem?_map, e]
/- what counts of a tree here: its parts. -/
theorem foldl_lq {α : Type} {g : α → TS → TS} : ∀ {l l' : List α}, LQ (fun a b => ∀ S, g a S = g b S) l l' → ∀ S, l.foldl (fun S y => g y S) S = l'.foldl (fun S y => g y S) S
  | [], [], _, _ => rfl
  | x :: xs, y :: ys, h, S => by rw [List.foldl_cons, List.foldl_cons, h.1 S]; exact foldl_lq h.2 _
  | [], _ :: _, h, _ => by cases h
  | _ :: _, [], h, _ => by cases h
theorem LQ.imp {α : Type} {R S : α → α → Prop} (hR : ∀ x y, R x y → S x y) : ∀ {l l' : List α}, LQ R l l' → LQ S l l'
  | [], [], _ => trivial
  | _ :: _, _ :: _, h => ⟨hR _ _ h.1, LQ.imp hR h.2⟩
  | [], _ :: _, h => by cases h
  | _ :: _, [], h => by cases h
def xT (a b : Ex) : Prop := ∀ f deep S, exT f deep a S = exT f deep b S
def sT (a b : Sm) : Prop := ∀ f deep S, smT f deep a S = smT f deep b S
theorem exT_args {a b : Ex} (h : LQ xT a.args b.args) : xT a b := by
  intro f deep S
  cases f with
  | zero => rfl
  | succ f =>
    rw [exT, exT, foldl_lq (LQ.imp (fun x y h => h f (deep + 1)) h)]
theorem smT_args {a b : Sm} (h : LQ xT a.args b.args) (h2 : LQ sT a.body b.body) (h3 : LQ sT a.els b.els) : sT a b := by
  intro f deep S
  cases f with
  | zero => rfl
  | succ f =>
    have e1 : ∀ S, exsT f (deep + 1) a.args S = exsT f (deep + 1) b.args S := foldl_lq (LQ.imp (fun x y h => h f (deep + 1)) h)
    rw [smT, smT, e1, foldl_lq (LQ.imp (fun x y h => h f (deep + 1)) h2), foldl_lq (LQ.imp (fun x y h => h f (deep + 1)) h3)]
def TQ : Rels where
  x := xT
  s := sT
  t := fun a b => ∀ S, stT a S = stT b S
  d := fun a b => ∀ S, dcT a S = dcT b S
  xx := fun _ _ _ _ => rfl
  ss := fun _ _ _ _ => rfl
  tt := fun _ _ => rfl
  dd := fun _ _ => rfl
  hx := fun _ _ _ _ _ _ _ _ _ _ _ h => exT_args h
  xl := fun a b l l' h f deep S => by
    have e : ∀ (c : Ex) (n : Nat), exT f deep (exLn c n) S = exT f deep c S := fun c n => by cases f <;> rfl
    rw [e, e]; exact h f deep S
  hs := fun _ _ _ _ _ _ _ _ _ _ _ _ _ h h2 h3 => smT_args h h2 h3
  sl := fun a b l l' h f deep S => by
    have e : ∀ (c : Sm) (n : Nat), smT f deep (smLn c n) S = smT f deep c S := fun c n => by cases f <;> rfl
    rw [e, e]; exact h f deep S
  ht := fun n hd cs ds l l' a1 a2 h S => by
    have e1 : ∀ S, exsT 63 3 a1 S = exsT 63 3 a2 S := foldl_lq (LQ.imp (fun x y h => h 63 3) h)
    unfold stT
    simp only [e1]
  hd := fun kind name fields w n rate burst s1 s2 k1 k2 acts dflt args b1 b2 emits l l' h1 h2 h3 S => by
    have e1 : ∀ S, s1.foldl (fun S y => stT y S) S = s2.foldl (fun S y => stT y S) S := foldl_lq h1
    have e2 : ∀ S, k1.foldl (fun S y => exT 64 2 y.1 S) S = k2.foldl (fun S y => exT 64 2 y.1 S) S := foldl_lq (g := fun (y : Ex × Nat) S => exT 64 2 y.1 S) (LQ.imp (fun x y h => h.1 64 2) h2)
    have e3 : ∀ S, smsT 64 2 b1 S = smsT 64 2 b2 S := foldl_lq (LQ.imp (fun x y h => h 64 2) h3)
    unfold dcT
    simp only [e1, e2, e3]
  dl := fun a b l l' h S => h S
theorem lim_q {l l' : List Dc} (h : LQ TQ.d l l') : limT l = limT l' := by
  unfold limT
  rw [foldl_lq h]
/- how rows of words are read that are alike up to a place. -/
theorem prog_err {xs ys : List (Wd × Nat)} {e : Nat} (h : progA (Lx xs) 0 = .error e) : e ≤ xs.length ∧ (Ag (Lx xs) (Lx ys) e → progA (Lx ys) 0 = .error e) := by
  have p := (lc_prog TQ (L' := Lx ys) (Lx_le xs) (k0 := 0) 0 (Nat.le_refl _) (by rw [Lx_len]; omega)).1 e h
  have := p.2.1
  rw [Lx_len] at this
  exact ⟨by omega, p.2.2⟩
theorem prog_ok {xs ys : List (Wd × Nat)} {ds : List Dc} {k : Nat} (h : progA (Lx xs) 0 = .ok (ds, k)) (hA : ∀ n, Ag (Lx xs) (Lx ys) n) : ∃ ds', progA (Lx ys) 0 = .ok (ds', k) ∧ limT ds = limT ds' := by
  have p := (lc_prog TQ (L' := Lx ys) (Lx_le xs) (k0 := 0) 0 (Nat.le_refl _) (by rw [Lx_len]; omega)).2 ds k h
  obtain ⟨ds', e, q⟩ := p.2.2 (hA _)
  exact ⟨ds', e, lim_q q⟩
def resE : PRes → Nat × Nat
  | .error x => x
  | .ok _ => (0, 0)
theorem parse_of {s : List UInt8} {xs : List (Wd × Nat)} (hl : s.length ≤ 65536) (h : toks s = .ok xs) : parseL s = match progA (Lx xs) 0 with
    | .error k => .error (lineP (Lx xs) k, 5)
    | .ok (ds, _) => if limT ds then .error (0, 3) else .ok ds := by
  unfold parseL
  rw [if_neg (by omega), h]
  rfl
theorem line_num {ws : List Wd} {j : Nat} (h : j < ws.length) : lineP (Lx (num 0 ws)) j = j := by
  unfold lineP
  rw [Lx_lt (by rw [num_len]; exact h), num_at, List.getElem?_eq_getElem h]
  simp
theorem line_end (ws : List Wd) : lineP (Lx (num 0 ws)) ws.length = ws.length - 1 := by
  have e : (Lx (num 0 ws))[ws.length]? = some (endW (num 0 ws)) := by
    have := Lx_end (num 0 ws)
    rw [num_len] at this; exact this
  unfold lineP
  rw [e]
  show lastLn (num 0 ws) = _
  unfold lastLn
  rw [List.getLast?_eq_getElem?, num_len, num_at]
  cases hw : ws[ws.length - 1]? with
  | none =>
    simp only [Option.map_none]
    have := List.getElem?_eq_none_iff.1 hw
    omega
  | some y => simp
/- the law's own steps. -/
theorem pl_whole {s : List UInt8} {xs : List (Wd × Nat)} (hs : s.length ≤ 65536) (ht : toks s = .ok xs) (hg : ∀ y ∈ xs.map (·.1), Good y) (hl : (ahT (xs.map (·.1))).length ≤ 65536) (h0 : 0 < xs.length) (h3 : (resE (parseL s)).2 ≠ 3) :
    (resE (parseL (ahT (xs.map (·.1))))).2 = (resE (parseL s)).2 ∧ (((resE (parseL s)).2 = 0 ∧ (resE (parseL (ahT (xs.map (·.1))))).1 = 0) ∨ ((resE (parseL s)).2 = 5 ∧ ∃ k, k ≤ xs.length ∧ progA (Lx (num 0 (xs.map (·.1)))) 0 = .error k ∧ (resE (parseL (ahT (xs.map (·.1))))).1 = min k (xs.length - 1))) := by
  have hA : ∀ n, Ag (Lx xs) (Lx (num 0 (xs.map (·.1)))) n := Lx_ag (num_fst _ _).symm
  have p1 := parse_of hs ht
  have p2 := parse_of hl (toks_ah _ hg)
  cases hp : progA (Lx xs) 0 with
  | error k =>
    obtain ⟨q1, q2⟩ := prog_err (ys := num 0 (xs.map (·.1))) hp
    have q3 := q2 (hA _)
    rw [hp] at p1
    rw [q3] at p2
    rw [p1, p2]
    refine ⟨rfl, .inr ⟨rfl, k, q1, q3, ?_⟩⟩
    show lineP _ k = _
    by_cases e : k = xs.length
    · have := line_end (xs.map (·.1))
      rw [List.length_map] at this
      rw [e, this]; omega
    · rw [line_num (by rw [List.length_map]; omega)]; omega
  | ok y =>
    obtain ⟨ds, k⟩ := y
    obtain ⟨ds', q1, q2⟩ := prog_ok (ys := num 0 (xs.map (·.1))) hp hA
    rw [hp] at p1
    rw [q1] at p2
    simp only at p1 p2
    rw [← q2] at p2
    cases hd : limT ds with
    | true =>
      rw [hd, if_pos rfl] at p1
      rw [p1] at h3
      exact absurd rfl h3
    | false =>
      rw [hd, if_neg (by decide)] at p1 p2
      rw [p1, p2]
      exact ⟨rfl, .inl ⟨rfl, rfl⟩⟩
theorem take_ag {ws : List Wd} {i e : Nat} (he : e < i) (hi : i ≤ ws.length) : Ag (Lx (num 0 (ws.take i))) (Lx (num 0 ws)) e := by
  intro j hj
  have l1 : (num 0 (ws.take i)).length = i := by rw [num_len, List.length_take]; omega
  rw [Lx_lt (by omega), Lx_lt (by rw [num_len]; omega), num_at, num_at, List.getElem?_take]
  rw [if_pos (by omega)]
/- ahead of the word at which it fails, it could be gone on with. -/
theorem pl_ahead {ws : List Wd} (hg : ∀ y ∈ ws, Good y) {k i : Nat} (hk : progA (Lx (num 0 ws)) 0 = .error k) (hi : i ≤ k) (hl : (ahT (ws.take i)).length ≤ 65536) (hkl : k ≤ ws.length) (h5 : (resE (parseL (ahT (ws.take i)))).2 = 5) : (resE (parseL (ahT (ws.take i)))).1 = i - 1 := by
  have p := parse_of hl (toks_ah _ fun y hy => hg y (List.mem_of_mem_take hy))
  have lt : (ws.take i).length = i := by rw [List.length_take]; omega
  cases hp : progA (Lx (num 0 (ws.take i))) 0 with
  | error e =>
    obtain ⟨q1, q2⟩ := prog_err (ys := num 0 ws) hp
    rw [num_len, lt] at q1
    have he : e = i := by
      by_cases h : e = i
      · exact h
      · have h' := q2 (take_ag (by omega) (by omega))
        rw [hk] at h'
        injection h' with h'
        omega
    subst he
    rw [hp] at p
    rw [p]
    have := line_end (ws.take e)
    rw [lt] at this
    exact this
  | ok y =>
    obtain ⟨ds, k2⟩ := y
    rw [hp] at p
    simp only at p
    rw [p] at h5
    split at h5 <;> cases h5
def rbW : Wd := ⟨4, [93], 0, 0⟩
theorem rb_good : Good rbW := .inr (.inr (.inr ⟨13, by decide, rfl⟩))
/- with a word behind it that never goes on, the same word is told. -/
theorem pl_last {ws : List Wd} (hg : ∀ y ∈ ws, Good y) {k : Nat} (hk : progA (Lx (num 0 ws)) 0 = .error k) (hkl : k + 1 < ws.length) (hl : (ahT ws).length ≤ 65536) : resE (parseL (ahT (ws.take (k + 1) ++ [rbW]))) = (k, 5) := by
  have lt : (ws.take (k + 1)).length = k + 1 := by rw [List.length_take]; omega
  have hle : (ahT (ws.take (k + 1) ++ [rbW])).length ≤ 65536 := by
    have e : ws = ws.take (k + 1) ++ ws.drop (k + 1) := (List.take_append_drop _ _).symm
    have hd : ∃ y r, ws.drop (k + 1) = y :: r := by
      cases h : ws.drop (k + 1) with
      | nil => have := congrArg List.length h; rw [List.length_drop] at this; simp at this; omega
      | cons y r => exact ⟨y, r, rfl⟩
    obtain ⟨y, r, hyr⟩ := hd
    have hy : Good y := hg y (by rw [e, hyr]; simp)
    obtain ⟨c, t, htd, _, _⟩ := told_head hy
    have h1 : (ahT ws).length = (ahT (ws.take (k + 1))).length + (toldW y).length + 1 + (ahT r).length := by
      have e2 := congrArg (fun l => (ahT l).length) e
      simp only [hyr] at e2
      rw [e2]
      unfold ahT
      simp only [List.map_append, List.map_cons, List.flatten_append, List.flatten_cons, List.length_append, List.length_cons, List.length_nil]
      omega
    rw [ahT_snoc, List.length_append, List.length_append]
    have h2 : (toldW y).length = t.length + 1 := by rw [htd]; rfl
    have h3 : (toldW rbW).length = 1 := rfl
    simp only [List.length_cons, List.length_nil]
    omega
  have hg2 : ∀ y ∈ ws.take (k + 1) ++ [rbW], Good y := by
    intro y hy
    rcases List.mem_append.1 hy with h | h
    · exact hg y (List.mem_of_mem_take h)
    · rw [List.mem_singleton] at h; rw [h]; exact rb_good
  have p := parse_of hle (toks_ah _ hg2)
  have hA : Ag (Lx (num 0 ws)) (Lx (num 0 (ws.take (k + 1) ++ [rbW]))) k := by
    intro j hj
    rw [Lx_lt (by rw [num_len]; omega), Lx_lt (by rw [num_len, List.length_append, lt]; omega), num_at, num_at, List.getElem?_append_left (by omega), List.getElem?_take, if_pos (by omega)]
  have q := (prog_err (ys := num 0 (ws.take (k + 1) ++ [rbW])) hk).2 hA
  rw [q] at p
  rw [p]
  show (lineP _ k, 5) = _
  rw [line_num (by rw [List.length_append, lt]; omega)]
end Go.Proofs.YtcfopkaomknmjaaGreatDoor
/- Told: a word as a text. -/
namespace Go.Proofs.YtcfopkaomknmjaaGreatDoor
open Go.RowKit

def tenZ : ByteArray := ⟨#[48, 49, 50, 51, 52, 53, 54, 55, 56, 57]⟩
theorem extZ : ∀ x : Fin 10, tenZ.extract x.val (x.val + 1) = txt [UInt8.ofNat (48 + x.val)] := by decide +kernel
theorem extZ' {x : Nat} (h : x < 10) : tenZ.extract x (x + 1) = txt [UInt8.ofNat (48 + x)] := extZ ⟨x, h⟩
theorem dcZ_len : ∀ (k v : Nat), v < 10 ^ (k + 1) → (Lib.decDigits v).length ≤ k + 1
  | 0, v, h => by rw [dc_small (by simpa using h)]; simp
  | k + 1, v, h => by
    by_cases hs : v < 10
    · rw [dc_small hs]; simp
    · rw [dc_big hs, List.length_append]
      have := dcZ_len k (v / 10) (by rw [Nat.pow_succ] at h; omega)
      simp; omega
set_option maxRecDepth 100000 in
theorem digits7 (N : Nat) (hN : N < 10000000000) (w : World) :
    Calls Tryz.prog 22 #[.int .u64 N] w fun e w' => e = .returned (.string (txt (Lib.decDigits N))) ∧ w' = w := by
  have HLN := hide (dcZ_len 9 N (by omega))
  generalize hD : Lib.decDigits N = D at HLN ⊢
  have HD := hide hD
  clear hD
  have hwf : Hid (N < 10000000000) := hN
  clear hN
  go_enter Tryz.func22, Tryz.ntmps22
  go_wp2
  go_loop [0, 3] (fun vn vs => ∃ (n : Nat) (l : List UInt8) (S : ByteArray), vn = .int .u64 (n : Int) ∧ vs = .string S ∧ n < 10000000000 ∧ Hid (S = txt l ∧ D = Lib.decDigits n ++ l)) (fun vn _ => (intOf vn).toNat)
  case atStart => exact ⟨N, [], ⟨#[]⟩, rfl, rfl, hwf.out, rfl, by rw [← HD.out]; simp⟩
  case round =>
    obtain ⟨n, l, S, rfl, rfl, hn, HS⟩ := hrel
    have hSs : S.size ≤ 20 := by
      obtain ⟨h1, h2⟩ := HS.out
      have := HLN.out
      rw [h2, List.length_append] at this
      rw [h1, txt_size]; omega
    have hs1 : ¬ 9223372036854775807 < 1 + S.size := by omega
    by_cases hb : 9 < n
    · have HN : Hid (tenZ.extract (n % 10) (n % 10 + 1) ++ S = txt (UInt8.ofNat (48 + n % 10) :: l) ∧ D = Lib.decDigits (n / 10) ++ (UInt8.ofNat (48 + n % 10) :: l)) := by
        obtain ⟨h1, h2⟩ := HS.out
        refine ⟨by rw [extZ' (by omega), h1, cat_txt]; rfl, ?_⟩
        rw [h2, dc_big (by omega), List.append_assoc]; rfl
      clear HS
      go_wp2
      exact ⟨⟨n / 10, _, _, by congr 1, rfl, by omega, HN⟩, by simp [intOf]; omega⟩
    · have HN : Hid (tenZ.extract (n % 10) (n % 10 + 1) ++ S = txt D) := by
        obtain ⟨h1, h2⟩ := HS.out
        unfold Hid
        rw [extZ' (by omega), h1, cat_txt, h2, dc_small (by omega), Nat.mod_eq_of_lt (by omega)]
      clear HS
      have hn10 : n < 10 := by omega
      go_wp2
      go_ret
      exact ⟨by rw [← HN.out]; rfl, rfl⟩
theorem good_dc {x : Wd} (h : Good x) (hk : x.k = 2) : x.v ≤ 2147483647 := by
  rcases h with ⟨c, l, rfl, _⟩ | ⟨n, rfl, hn⟩ | ⟨n, v, rfl, _⟩ | ⟨j, _, rfl⟩
  · cases hk
  · exact hn
  · cases hk
  · cases hk
theorem good_tx {x : Wd} (h : Good x) (hk : x.k = 3) : okN (x.w : Int) x.v = true := by
  rcases h with ⟨c, l, rfl, _⟩ | ⟨n, rfl, hn⟩ | ⟨n, v, rfl, ho⟩ | ⟨j, _, rfl⟩
  · cases hk
  · cases hk
  · exact ho
  · cases hk
theorem good_len {x : Wd} (h : Good x) : (toldW x).length ≤ 255 := by
  rcases h with ⟨c, l, rfl, _, _, hl⟩ | ⟨n, rfl, hn⟩ | ⟨n, v, rfl, ho⟩ | ⟨j, hj, rfl⟩
  · exact hl
  · have := dcZ_len 9 n (by omega); show (Lib.decDigits n).length ≤ 255; omega
  · have hb := okN_bd ho
    have := tx_le n v (by omega) (by have := okN_ltop ho; unfold top at this; exact this)
    show (tx n v).length ≤ 255
    unfold tx
    simp; omega
  · have := sg_small ⟨j, hj⟩
    show (sgs.getD j []).length ≤ 255
    simp only at this
    omega
set_option maxRecDepth 100000 in
theorem told_any (x : Wd) (ln : Nat) (w : World) (hL : Ls w) (hG : Good x) :
    Calls Tryz.prog 11 #[.agg #[.int .u8 (x.k : Int), .string (txt x.s), .int .i64 (x.w : Int), .int .u64 (wHi x.v), .int .u64 (wLo x.v), .int .i64 (ln : Int)]] w fun e w' => e = .returned (.string (txt (toldW x))) ∧ Below w.heap.size w w' := by
  have HL := hide hL
  have HB0 : Hid (∀ o, Below w.heap.size w (w.alloc o)) := fun o => (Below.refl w.heap.size w).alloc (Nat.le_refl _) o
  by_cases h2 : x.k = 2
  · have hv := good_dc hG h2
    have hlo : wLo x.v = (x.v : Int) := by unfold wLo; omega
    have HD : Hid (∀ W, _) := fun W => digits7 x.v (by omega) W
    have HR : Hid (toldW x = Lib.decDigits x.v) := by unfold Hid toldW; rw [if_pos h2]
    rw [hlo, h2]
    clear hL hlo h2 hG hv
    generalize txt x.s = S at *
    generalize wHi x.v = u1 at *
    generalize (x.w : Int) = u2 at *
    generalize (ln : Int) = u3 at *
    go_enter Tryz.func11, Tryz.ntmps11
    go_wp2_with fail
    refine (HD.out _).mono ?_
    rintro e w1 ⟨rfl, rfl⟩
    go_wp2
    go_ret
    exact ⟨by rw [HR.out]; rfl, HB0.out _⟩
  · by_cases h3 : x.k = 3
    · have ho := good_tx hG h3
      have HT : Hid (∀ W, Ls W → _) := fun W h => text_yes (x.w : Int) x.v W h.ld (okN_ltop ho) ho
      rw [Int.toNat_natCast] at HT
      have HR : Hid (toldW x = tx x.w x.v) := by unfold Hid toldW; rw [if_neg h2, if_pos h3]
      rw [h3]
      clear hL h2 h3 hG ho
      generalize txt x.s = S at *
      generalize wHi x.v = u1 at *
      generalize wLo x.v = u4 at *
      generalize (x.w : Int) = u2 at *
      generalize (ln : Int) = u3 at *
      go_enter Tryz.func11, Tryz.ntmps11
      go_wp2_with fail
      refine (HT.out _ (HL.out.below (HB0.out _))).mono ?_
      rintro e w1 ⟨rfl, hb⟩
      have B1 := hide ((HB0.out _).trans (hb.mono (by simp)))
      clear hb
      go_wp2
      go_ret
      exact ⟨by rw [HR.out]; rfl, B1.out⟩
    · have HR : Hid (toldW x = x.s) := by unfold Hid toldW; rw [if_neg h2, if_neg h3]
      have g2 : ¬ ((x.k : Int) = 2) := by omega
      have g3 : ¬ ((x.k : Int) = 3) := by omega
      clear hL h2 h3 hG
      rw [HR.out]
      generalize txt x.s = S at *
      generalize wHi x.v = u1 at *
      generalize wLo x.v = u4 at *
      generalize (x.w : Int) = u2 at *
      generalize (x.k : Int) = u5 at *
      generalize (ln : Int) = u3 at *
      go_enter Tryz.func11, Tryz.ntmps11
      go_wp2
      go_ret
      exact ⟨rfl, HB0.out _⟩
end Go.Proofs.YtcfopkaomknmjaaGreatDoor
/- Words as they lie, read. -/
namespace Go.Proofs.YtcfopkaomknmjaaGreatDoor
open Go.RowKit

theorem wcl_len (x : Wd × Nat) : (wcl x).length = 6 := rfl
theorem wcs_get : ∀ (L : List (Wd × Nat)) (i j : Nat) (hi : i < L.length) (_ : j < 6), (wcs L)[i * 6 + j]? = (wcl L[i])[j]?
  | [], i, j, hi, _ => by simp at hi
  | x :: L, 0, j, _, hj => by
    rw [wcs, List.map_cons, List.flatten_cons, List.getElem?_append_left (by rw [wcl_len]; omega)]
    simp
  | x :: L, i + 1, j, hi, hj => by
    rw [wcs, List.map_cons, List.flatten_cons, List.getElem?_append_right (by rw [wcl_len]; omega)]
    have := wcs_get L i j (by simpa using hi) hj
    rw [wcs] at this
    have e : (i + 1) * 6 + j - (wcl x).length = i * 6 + j := by rw [wcl_len]; omega
    rw [e, this]
    simp
def RdG (W : World) (g : Nat) (L : List (Wd × Nat)) : Prop := g < W.heap.size ∧ ∀ k (hk : k < L.length) j u, (wcl L[k])[j]? = some u → W.cell? ⟨g, k * 6 + j, none⟩ = some u
def SlW (W : World) (v : Value) (L : List (Wd × Nat)) : Prop := (v = .slice none 0 0 ∧ L = []) ∨ ∃ g cap, v = .slice (some ⟨g, 0, none⟩) L.length cap ∧ RdG W g L
theorem lt6 {α : Type} {l : List α} {j : Nat} {u : α} (hl : l.length = 6) (h : l[j]? = some u) : j < 6 := by
  have := (List.getElem?_eq_some_iff.1 h).1; omega
theorem OwnW.sl {W : World} {B : Nat} {v : Value} {L : List (Wd × Nat)} (h : OwnW W B v L) : SlW W v L := by
  obtain ⟨hl, ⟨rfl, h0⟩ | ⟨g, cap, cur, rfl, hb, hh, h1, h2, h3, h4⟩⟩ := h
  · exact .inl ⟨rfl, List.length_eq_zero_iff.1 h0⟩
  · refine .inr ⟨g, cap, rfl, (Array.getElem?_eq_some_iff.1 hh).1, fun k hk j u hu => ?_⟩
    have hj := lt6 (wcl_len _) hu
    have h5 := wcs_get L k j hk hj
    rw [hu, ← h4, List.getElem?_take, if_pos (by omega)] at h5
    simp [World.cell?, hh]
    rw [← Array.getElem?_toList]; exact h5
theorem RdG.keep {W W' : World} {g : Nat} {L : List (Wd × Nat)} (h : RdG W g L) (hb : Below W.heap.size W W') : RdG W' g L :=
  ⟨Nat.lt_of_lt_of_le h.1 hb.size, fun k hk j u hu => (hb.cell (p := ⟨g, k * 6 + j, none⟩) h.1).trans (h.2 k hk j u hu)⟩
theorem SlW.keep {W W' : World} {v : Value} {L : List (Wd × Nat)} (h : SlW W v L) (hb : Below W.heap.size W W') : SlW W' v L := by
  rcases h with h | ⟨g, cap, e, h⟩
  · exact .inl h
  · exact .inr ⟨g, cap, e, h.keep hb⟩
theorem OwnW.shape {W : World} {B : Nat} {v : Value} {xs : List (Wd × Nat)} (h : OwnW W B v xs) : ∃ ad cap, v = .slice ad xs.length cap := by
  obtain ⟨hl, ⟨rfl, h0⟩ | ⟨g, cap, cur, hv, _⟩⟩ := h
  · exact ⟨none, 0, by rw [h0]⟩
  · exact ⟨_, _, hv⟩
theorem words_ok {s : List UInt8} {xs : List (Wd × Nat)} (h : toks s = .ok xs) (hl : s.length ≤ 65536) (T : ByteArray) (hT : T = txt s) (W : World) (hL : Ls W) :
    Calls Tryz.prog 9 #[.string T] W fun e w' => ∃ v, e = .returned (.tuple #[v, .int .i64 0, .int .i64 0]) ∧ OwnW w' W.heap.size v xs ∧ xs.length ≤ 65536 ∧ Below W.heap.size W w' := by
  subst hT
  refine (words_any s W hL (by omega)).mono ?_
  rintro e w' ⟨hb, ⟨h1, _⟩ | ⟨_, ⟨k, h1, _⟩ | ⟨ys, v, h1, h2, h3, h4⟩⟩⟩
  · omega
  · rw [h] at h1; cases h1
  · rw [h] at h1; cases h1; exact ⟨v, h4, h3, h2, hb⟩
theorem words_err {s : List UInt8} {k : Nat} (h : toks s = .error k) (hl : s.length ≤ 65536) (T : ByteArray) (hT : T = txt s) (W : World) (hL : Ls W) :
    Calls Tryz.prog 9 #[.string T] W fun e w' => e = .returned (.tuple #[.slice none 0 0, .int .i64 (k : Int), .int .i64 4]) ∧ Below W.heap.size W w' := by
  subst hT
  refine (words_any s W hL (by omega)).mono ?_
  rintro e w' ⟨hb, ⟨h1, _⟩ | ⟨_, ⟨j, h1, h2⟩ | ⟨ys, v, h1, _⟩⟩⟩
  · omega
  · rw [h] at h1; cases h1; exact ⟨h2, hb⟩
  · rw [h] at h1; cases h1
end Go.Proofs.YtcfopkaomknmjaaGreatDoor
/- package parse: Parse's closure that catches. -/
namespace Go.Proofs.YtcfopkaomknmjaaGreatDoor
open Go.RowKit

theorem pcatch_idle (a b c d : Value) (w : World) :
    CallsD Tryz.prog 16 #[a, b, c, d] .returning w fun e u' w' => e = .returned (.tuple #[]) ∧ u' = .returning ∧ w' = w := by
  refine callsD_of_wpS Tryz.func16 rfl fun c₀ cs hu => ?_
  apply wpS_seq
  apply wpS_region
  simp [wpOpsS, go_sem, recoverD, hu, Tryz.ntmps16, Exit.thenS]
  refine wpS_cond (t := false) (by simp [Act.eval, Array.replicate]) ?_
  simp only [Bool.false_eq_true, if_false]
  refine wpS_of_wp (wp_skip ?_)
  cases c₀
  simp_all [bodyPostS, results, Tryz.results16]
set_option maxRecDepth 100000 in
set_option maxHeartbeats 4000000 in
theorem pcatch_panic {w : World} {p q : Nat} {L : List (Wd × Nat)} {k : Nat} {dm sm : Value} {b6 b2 b3 b4 : Nat} {x2 x3 x4 : Value} (h : Rp w w p q L k dm sm) (c6 : w.heap[b6]? = some (.cells #[.pointer (some ⟨p, 0, none⟩)] 53 (0, 0))) (c2 : w.heap[b2]? = some (.cells #[x2] 23 (0, 0))) (c3 : w.heap[b3]? = some (.cells #[x3] 3 (0, 0))) (c4 : w.heap[b4]? = some (.cells #[x4] 24 (0, 0))) (n23 : b2 ≠ b3) (n24 : b2 ≠ b4) (n34 : b3 ≠ b4) (older : List PanicEntry) :
    CallsD Tryz.prog 16 #[.pointer (some ⟨b6, 0, none⟩), .pointer (some ⟨b2, 0, none⟩), .pointer (some ⟨b3, 0, none⟩), .pointer (some ⟨b4, 0, none⟩)] (.panicking ({ v := .iface 150 (.agg #[]), recovered := false } :: older)) w fun e u' w' =>
      e = .returned (.tuple #[]) ∧ u' = .panicking ({ v := .iface 150 (.agg #[]), recovered := true } :: older) ∧ ∃ w1, Below w.heap.size w w1 ∧ w' = ((w1.setCell ⟨b2, 0, none⟩ (.slice none 0 0)).setCell ⟨b3, 0, none⟩ (.int .i64 (lineP L k : Int))).setCell ⟨b4, 0, none⟩ (.int .i64 5) := by
  have g6 := cellA c6 0
  have HA := hide (aheadL h)
  have HB2 : Hid (∀ W, Below w.heap.size w W → W.heap[b2]? = some (.cells #[x2] 23 (0, 0))) := fun W hb => (hb.block b2 (Array.getElem?_eq_some_iff.1 c2).1).trans c2
  have HB3 : Hid (∀ W, Below w.heap.size w W → W.heap[b3]? = some (.cells #[x3] 3 (0, 0))) := fun W hb => (hb.block b3 (Array.getElem?_eq_some_iff.1 c3).1).trans c3
  have HB4 : Hid (∀ W, Below w.heap.size w W → W.heap[b4]? = some (.cells #[x4] 24 (0, 0))) := fun W hb => (hb.block b4 (Array.getElem?_eq_some_iff.1 c4).1).trans c4
  obtain ⟨x, hx, _⟩ := h.word
  have HAh := hide (ahead_any h hx)
  have HLN : Hid ((x.2 : Int) = (lineP L k : Int)) := by unfold Hid lineP; rw [hx]
  unfold wdV at HAh
  obtain ⟨_, _, _, fl⟩ := fldW (.int .u8 (x.1.k : Int)) (.string (txt x.1.s)) (.int .i64 (x.1.w : Int)) (.int .u64 (wHi x.1.v)) (.int .u64 (wLo x.1.v)) (.int .i64 (x.2 : Int))
  rw [← HLN.out]
  generalize (x.2 : Int) = ln at *
  generalize txt x.1.s = a1 at *
  clear h c2 c3 c4 hx HA c6
  refine callsD_of_wpS Tryz.func16 rfl fun c₀ cs hu => ?_
  apply wpS_seq
  apply wpS_region
  simp [wpOpsS, go_sem, recoverD, hu, Tryz.ntmps16, Exit.thenS]
  refine wpS_cond (t := true) (by simp [Act.eval, Array.replicate]) ?_
  simp only [if_true]
  refine wpS_of_wp ?_
  go_wp2_with fail
  refine HAh.out.mono ?_
  rintro e w1 ⟨rfl, hb⟩
  have g2 := cellA (HB2.out _ hb) 0; have s2 := softA (HB2.out _ hb) 0
  have g3 := cellA (HB3.out _ hb) 0; have s3 := softA (HB3.out _ hb) 0
  have g4 := cellA (HB4.out _ hb) 0; have s4 := softA (HB4.out _ hb) 0
  have HBB := hide hb
  clear hb
  go_wp2
  simp [bodyPostS, results, Tryz.results16]
  exact ⟨w1, HBB.out, rfl⟩
end Go.Proofs.YtcfopkaomknmjaaGreatDoor
