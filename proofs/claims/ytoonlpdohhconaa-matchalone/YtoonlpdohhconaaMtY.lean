/- A table of one exact key of 16 bits, as plain data. -/
import Derived.Test.YtoonlpdohhconaaMtX
namespace Go.Proofs.Ytoonlpdohhconaa
open Go.RowKit

def t16 : Tb := ⟨[1], [16], 4096⟩
def mx16 (v : Nat) : Mx := ⟨⟨16, 0, v⟩, nb0, 0⟩
def ex16 (v : Nat) : En := ⟨[mx16 v], 0, ⟨#[97]⟩, []⟩
theorem ok16 {v : Nat} (h : v < 65536) : (⟨16, 0, v⟩ : Nb).ok = true := by
  have h1 : cLo 16 (v : Int) = v := by
    rw [cLo_le (by decide)]
    have : (2 : Int) ^ (16 : Int).toNat = 65536 := by decide
    rw [this]; omega
  have h2 : cHi 16 0 = 0 := cHi_le (by decide)
  simp [Nb.ok, okB, mayBe, h1, h2]
theorem wide16 {v : Nat} (h : v < 65536) : wide ⟨16, 0, v⟩ 16 = true := by simp [wide, ok16 h]
theorem chk16 {v : Nat} (h : v < 65536) : chkB t16 (ex16 v) = true := by
  have h1 : tabMay ⟨[1], [16], 4096⟩ = true := by decide
  have h2 : wide (⟨16, 0, v⟩ : Nb) 16 = true := wide16 h
  have h3 : prioB ⟨[1], [16], 4096⟩ 0 = true := by decide
  simp [chkB, h1, enMay, ex16, h3, mmsB, t16, allI, mmB, mx16, h2, mayK, Nb.eq, nb0]
theorem same16 (v u : Nat) : sameP (ex16 v) (ex16 u) = (v == u) := by
  simp only [sameP, ex16, eqMs, Mx.eq, mx16, Nb.eq, nb0, beq_self_eq_true, Bool.true_and, Bool.and_true]
  by_cases h : v = u
  · subst h; simp
  · have : ((v : Int) == (u : Int)) = false := by simp; omega
    simp [this, h]
theorem here16 (V : List Nat) (v : Nat) : hereI (V.map ex16) (ex16 v) = firstI (fun u => u == v) V := by
  unfold hereI firstI
  rw [List.findIdx?_map]
  have : (fun x => sameP x (ex16 v)) ∘ ex16 = fun u => u == v := by funext u; exact same16 u v
  rw [this]
theorem ins16 {V : List Nat} {v : Nat} (h : v < 65536) (hV : V.length ≤ 300) : insI t16 (V.map ex16) (ex16 v) = if V.any (fun u => u == v) then 12 else 0 := by
  unfold insI
  rw [chk16 h, if_pos rfl, here16]
  have hd := firstI_any (fun u => u == v) V
  have hs : ¬ (t16.size ≤ ((V.map ex16).length : Int)) := by
    have : t16.size = 4096 := rfl
    rw [this, List.length_map]; omega
  cases e : V.any (fun u => u == v)
  · rw [e] at hd
    have := of_decide_eq_false hd
    rw [if_neg this, if_neg hs]; rfl
  · rw [e] at hd
    have := of_decide_eq_true hd
    rw [if_pos this]; rfl
theorem hit16 {v key : Nat} (h : v < 65536) : hitB t16 [⟨16, 0, key⟩] (ex16 v) = (v == key) := by
  have h2 : wide (⟨16, 0, v⟩ : Nb) 16 = true := wide16 h
  simp only [hitB, ex16, mx16, allI, mtB, t16, List.getD_cons_zero, h2, matK, Nb.eq, beq_self_eq_true, Bool.true_and, Bool.and_true, List.length_cons, List.length_nil]
  by_cases e : v = key
  · subst e; simp
  · have : ((key : Int) == (v : Int)) = false := by simp; omega
    simp [this, e]
/- Where nothing counts more, the first one counts. -/
theorem best_keep (ys : List Nat) (j : Nat) : ys.foldl (pickB (fun _ => 0)) (some j) = some j := by
  induction ys with
  | nil => rfl
  | cons k ys ih => simp only [List.foldl_cons, pickB]; simpa using ih
theorem best_first {α : Type} (P : α → Bool) (l : List α) : ∀ n, n ≤ l.length → bestC (bestL (fun _ => 0) (idxsTo P l n)) = firstI P (l.take n)
  | 0, _ => by simp [idxsTo, bestL, bestC, firstI]
  | n + 1, h => by
    have hn : n < l.length := by omega
    have ih := best_first P l n (by omega)
    rw [idxsTo]
    simp only [hn, dif_pos]
    have et : l.take (n + 1) = l.take n ++ [l[n]] := List.take_succ_eq_append_getElem hn
    rcases firstI_cases P (l.take n) with ⟨e, hno⟩ | ⟨k, hk, e, hp, hbef⟩
    · have hb : bestL (fun _ => 0) (idxsTo P l n) = none := by
        rw [e] at ih
        cases hb : bestL (fun _ => 0) (idxsTo P l n) with
        | none => rfl
        | some j => rw [hb] at ih; simp [bestC] at ih
      cases hpn : P l[n]
      · simp only [Bool.false_eq_true, if_false, List.append_nil]
        rw [hb, et]
        refine (firstI_none (fun j hj => ?_)).symm
        rw [List.length_append, List.length_singleton] at hj
        by_cases hj2 : j < (l.take n).length
        · rw [List.getElem_append_left hj2]; exact hno _ (List.getElem_mem hj2)
        · have hjn : j = (l.take n).length := by omega
          subst hjn
          rw [List.getElem_append_right (Nat.le_refl _)]
          simpa using hpn
      · simp only [if_true]
        rw [bestL_snoc, hb, et]
        have hl : (l.take n).length = n := by simp; omega
        have := firstI_hit (p := P) (l := l.take n ++ [l[n]]) (k := n) (by rw [List.length_append, hl]; simp) (by rw [List.getElem_append_right (by omega)]; simp [hl, hpn]) (fun j hj => by rw [List.getElem_append_left (by omega)]; exact hno _ (List.getElem_mem _))
        rw [this]; rfl
    · have hl : (l.take n).length = n := by simp; omega
      have hb : bestL (fun _ => 0) (idxsTo P l n) = some k := by
        rw [e] at ih
        cases hb : bestL (fun _ => 0) (idxsTo P l n) with
        | none => rw [hb] at ih; simp only [bestC] at ih; omega
        | some j => rw [hb] at ih; simp only [bestC] at ih; congr 1; omega
      have hgoal : bestL (fun _ => 0) (idxsTo P l n ++ (if P l[n] = true then [n] else [])) = some k := by
        split
        · rw [bestL_snoc, hb]; simp [pickB]
        · rw [List.append_nil, hb]
      rw [hgoal, et]
      have := firstI_hit (p := P) (l := l.take n ++ [l[n]]) (k := k) (by rw [List.length_append]; omega) (by rw [List.getElem_append_left hk]; exact hp) (fun j hj => by rw [List.getElem_append_left (by omega)]; exact hbef j hj)
      rw [this]; rfl
theorem find16 {V : List Nat} {key : Nat} (hk : key < 65536) (hV : ∀ v ∈ V, v < 65536) : findE t16 (V.map ex16) [⟨16, 0, key⟩] = firstI (fun u => u == key) V := by
  have h1 : findB t16 [(⟨16, 0, key⟩ : Nb)] = true := by
    have h0 : tabMay ⟨[1], [16], 4096⟩ = true := by decide
    have h2 : wide (⟨16, 0, key⟩ : Nb) 16 = true := wide16 hk
    simp [findB, h0, t16, allI, h2]
  unfold findE
  rw [h1, if_pos rfl]
  have h2 : wtEn t16 (V.map ex16) = fun _ => 0 := by
    funext k
    have hw : weighsB t16 = false := by decide
    have hp : preI t16 = -1 := by decide
    unfold wtEn
    split
    · simp [wtI, hw, hp]
    · rfl
  rw [h2, best_first _ _ _ (Nat.le_refl _), List.take_length]
  unfold firstI
  rw [List.findIdx?_map]
  have : ∀ (W : List Nat), (∀ v ∈ W, v < 65536) → W.findIdx? (hitB t16 [⟨16, 0, key⟩] ∘ ex16) = W.findIdx? (fun u => u == key) := fun W => by
    induction W with
    | nil => intro _; rfl
    | cons v W ih =>
      intro hW
      rw [List.findIdx?_cons, List.findIdx?_cons, ih (fun u hu => hW u (by simp [hu]))]
      simp only [Function.comp, hit16 (hW v (by simp))]
  rw [this V hV]
/- What is inserted of a list, one after the other. -/
def ded : List Nat → List Nat → List Nat
  | V, [] => V
  | V, x :: xs => ded (if V.any (fun u => u == x) then V else V ++ [x]) xs
def dedT (xs : List Nat) (k : Nat) : List Nat := ded [] (xs.take k)
theorem ded_append : ∀ (xs ys V : List Nat), ded V (xs ++ ys) = ded (ded V xs) ys
  | [], _, _ => rfl
  | _ :: xs, ys, _ => ded_append xs ys _
theorem dedT_succ (xs : List Nat) (k : Nat) (h : k < xs.length) : dedT xs (k + 1) = if (dedT xs k).any (fun u => u == xs[k]) then dedT xs k else dedT xs k ++ [xs[k]] := by
  unfold dedT
  rw [List.take_succ_eq_append_getElem h, ded_append]
  rfl
theorem ded_mem : ∀ (xs V : List Nat) (v : Nat), v ∈ ded V xs ↔ v ∈ V ∨ v ∈ xs
  | [], V, v => by simp [ded]
  | x :: xs, V, v => by
    rw [ded, ded_mem xs]
    by_cases h : V.any (fun u => u == x) = true
    · rw [if_pos h]
      have hx : x ∈ V := by
        obtain ⟨u, hu, e⟩ := List.any_eq_true.1 h
        have : u = x := by simpa using e
        rw [← this]; exact hu
      constructor
      · rintro (h | h)
        · exact .inl h
        · exact .inr (by simp [h])
      · rintro (h | h)
        · exact .inl h
        · rcases List.mem_cons.1 h with rfl | h
          · exact .inl hx
          · exact .inr h
    · rw [if_neg h]
      constructor
      · rintro (h | h)
        · rcases List.mem_append.1 h with h | h
          · exact .inl h
          · exact .inr (by simp at h; simp [h])
        · exact .inr (by simp [h])
      · rintro (h | h)
        · exact .inl (by simp [h])
        · rcases List.mem_cons.1 h with rfl | h
          · exact .inl (by simp)
          · exact .inr h
theorem dedT_mem (xs : List Nat) (k v : Nat) : v ∈ dedT xs k ↔ v ∈ xs.take k := by unfold dedT; rw [ded_mem]; simp
theorem dedT_len (xs : List Nat) : ∀ k, k ≤ xs.length → (dedT xs k).length ≤ k
  | 0, _ => by simp [dedT, ded]
  | k + 1, h => by
    have := dedT_len xs k (by omega)
    rw [dedT_succ xs k (by omega)]
    split
    · omega
    · rw [List.length_append, List.length_singleton]; omega
theorem dedT_any (xs : List Nat) (k : Nat) (h : k < xs.length) : (dedT xs k).any (fun u => u == xs[k]) = (xs.take k).any (fun u => u == xs[k]) := by
  rw [Bool.eq_iff_iff, List.any_eq_true, List.any_eq_true]
  constructor
  · rintro ⟨u, hu, e⟩; exact ⟨u, (dedT_mem xs k u).1 hu, e⟩
  · rintro ⟨u, hu, e⟩; exact ⟨u, (dedT_mem xs k u).2 hu, e⟩
theorem any_take_succ (xs : List Nat) (x j : Nat) (h : j < xs.length) : (xs.take (j + 1)).any (fun u => u == x) = ((xs.take j).any (fun u => u == x) || xs[j] == x) := by
  rw [List.take_succ_eq_append_getElem h, List.any_append]; simp
theorem firstI_snoc {V : List Nat} {x key : Nat} (hx : V.any (fun u => u == x) = false) : firstI (fun u => u == key) (V ++ [x]) = if x = key then (V.length : Int) else firstI (fun u => u == key) V := by
  have hno : ∀ u ∈ V, (u == x) = false := fun u hu => by
    cases e : (u == x)
    · rfl
    · have : V.any (fun u => u == x) = true := List.any_eq_true.2 ⟨u, hu, e⟩
      rw [hx] at this; cases this
  by_cases h : x = key
  · subst h
    rw [if_pos rfl]
    exact firstI_hit (by simp) (by simp) (fun j hj => by rw [List.getElem_append_left hj]; exact hno _ (List.getElem_mem hj))
  · rw [if_neg h]
    rcases firstI_cases (fun u => u == key) V with ⟨e, hn⟩ | ⟨k, hk, e, hp, hb⟩
    · rw [e]
      refine firstI_none (fun j hj => ?_)
      rw [List.length_append, List.length_singleton] at hj
      by_cases hj2 : j < V.length
      · rw [List.getElem_append_left hj2]; exact hn _ (List.getElem_mem hj2)
      · have : j = V.length := by omega
        subst this; simp [h]
    · rw [e]
      exact firstI_hit (by rw [List.length_append]; omega) (by rw [List.getElem_append_left hk]; exact hp) (fun j hj => by rw [List.getElem_append_left (by omega)]; exact hb j hj)
end Go.Proofs.Ytoonlpdohhconaa
