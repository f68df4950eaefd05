/- A text as it lies; take and eat. -/
import Derived.Test.YtfanhdjebmdniaaGreatDoorLA
import Derived.Test.YtfanhdjebmdniaaGreatDoorFr
namespace Go.Proofs.YtfanhdjebmdniaaGreatDoor
open Go.RowKit

/- what is left of a text, and the line. -/
def Tx (W : World) (p : Nat) (r : List UInt8) (n : Nat) : Prop := W.heap[p]? = some (.cells #[.string (txt r), .int .i64 (n : Int)] 77 (0, 0))
theorem Tx.lt {W : World} {p : Nat} {r : List UInt8} {n : Nat} (h : Tx W p r n) : p < W.heap.size := (Array.getElem?_eq_some_iff.1 h).1
theorem Tx.cells {W : World} {p : Nat} {r : List UInt8} {n : Nat} (h : Tx W p r n) : W.cell? ⟨p, 0, none⟩ = some (.string (txt r)) ∧ W.cell? ⟨p, 1, none⟩ = some (.int .i64 (n : Int)) ∧ W.frozen? ⟨p, 0, none⟩ = false ∧ W.frozen? ⟨p, 1, none⟩ = false := by
  unfold Tx at h
  refine ⟨?_, ?_, ?_, ?_⟩ <;> simp [World.cell?, World.frozen?, h]
theorem Tx.set0 {W : World} {p : Nat} {r : List UInt8} {n : Nat} (h : Tx W p r n) (r' : List UInt8) : Tx (W.setCell ⟨p, 0, none⟩ (.string (txt r'))) p r' n := by
  unfold Tx at *
  have hl := (Array.getElem?_eq_some_iff.1 h).1
  simp [World.setCell, Array.getElem?_modify, h]
theorem Tx.set1 {W : World} {p : Nat} {r : List UInt8} {n : Nat} (h : Tx W p r n) (n' : Nat) : Tx (W.setCell ⟨p, 1, none⟩ (.int .i64 (n' : Int))) p r n' := by
  unfold Tx at *
  have hl := (Array.getElem?_eq_some_iff.1 h).1
  simp [World.setCell, Array.getElem?_modify, h]
theorem Tx.below {W W' : World} {p : Nat} {r : List UInt8} {n : Nat} (h : Tx W p r n) (hb : Below W.heap.size W W') : Tx W' p r n := (hb.block _ h.lt).trans h
theorem Tx.drew {W : World} {p : Nat} {r : List UInt8} {n : Nat} (h : Tx W p r n) : Tx W.drew p r n := h
theorem Tx.alloc {W : World} {p : Nat} {r : List UInt8} {n : Nat} (h : Tx W p r n) (o : Obj) : Tx (W.alloc o) p r n := h.below ((Below.refl _ _).alloc (Nat.le_refl _) o)
abbrev FrP (p : Nat) (W W' : World) : Prop := Fr (fun b => b = p) W W'
set_option maxRecDepth 100000 in
theorem take_any (p k n : Nat) (r : List UInt8) (w : World) (hT : Tx w p r n) (hk : k ≤ r.length) (hr : r.length ≤ 1000000) (hn : n ≤ 1000000) :
    Calls Tryz.prog 188 #[.pointer (some ⟨p, 0, none⟩), .int .i64 (k : Int)] w fun e w' => e = .returned (.string (txt (r.take k))) ∧ Tx w' p (r.drop k) (n + c10 (r.take k)) ∧ FrP p w w' := by
  have hlen : (r.take k).length ≤ 1000000 := by rw [List.length_take]; omega
  have HLn := hide (linesIn_any (r.take k) hlen)
  have hc1 := c10_le (r.take k)
  obtain ⟨c0, c1, f0, f1⟩ := hT.cells
  have hsz := txt_size r
  have HE1 : Hid ((txt r).extract 0 k = txt (r.take k)) := by unfold Hid; rw [txt_ext]; simp
  have HE2 : Hid ((txt r).extract k (txt r).size = txt (r.drop k)) := by unfold Hid; rw [txt_ext, txt_size, List.take_of_length_le (Nat.le_refl _)]
  have HT1 := hide (hT.set0 (r.drop k))
  have HF1 : Hid (FrP p w (w.setCell ⟨p, 0, none⟩ (.string (txt (r.drop k))))) := (Fr.refl _ w).set _ _ rfl
  have HKK : Hid (∀ w', Below (w.setCell ⟨p, 0, none⟩ (.string (txt (r.drop k)))).drew.heap.size (w.setCell ⟨p, 0, none⟩ (.string (txt (r.drop k)))).drew w' → Tx w' p (r.drop k) n ∧ FrP p w w') := fun w' hb => ⟨HT1.out.drew.below hb, HF1.out.drew.trans (Fr.ofBelow hb) (fun _ _ e => e)⟩
  have hrI : (k : Int) ≤ ((txt r).size : Int) := by omega
  have hk0 : (0 : Int) ≤ (k : Int) := by omega
  have HS : Hid (∀ w', Tx w' p (r.drop k) n → Tx (w'.setCell ⟨p, 1, none⟩ (.int .i64 ((n + c10 (r.take k) : Nat) : Int))) p (r.drop k) (n + c10 (r.take k))) := fun w' h => h.set1 _
  have hw : IntKind.i64.wrap ((n : Int) + ((c10 (r.take k) : Nat) : Int)) = ((n + c10 (r.take k) : Nat) : Int) := by rw [IntKind.wrap_i64]; omega
  have hc1b : c10 (r.take k) ≤ 1000000 := by omega
  have hw2 : (n : Int) + ((c10 (r.take k) : Nat) : Int) = ((n + c10 (r.take k) : Nat) : Int) := by omega
  generalize hN : n + c10 (r.take k) = N at *
  have e1 := HE1.out
  have e2 := HE2.out
  generalize hA : txt (r.take k) = A at *
  generalize hB : txt (r.drop k) = B at *
  generalize txt r = T at *
  generalize r.drop k = R at *
  generalize c10 (r.take k) = C at *
  have hkT : k ≤ T.size := by omega
  have hTm : T.size ≤ 1000000 := by omega
  clear hT hlen hc1 hsz
  have HW2 := hide hw2
  clear hw2 hA hB hN
  go_enter Tryz.func188, Tryz.ntmps188
  go_wp2
  go_region_with (first | (go_at_call 212; refine (HLn.out _).mono ?_; rintro e w' ⟨rfl, hb⟩; obtain ⟨hTx, hFr⟩ := HKK.out _ (hb : Below _ _ _); obtain ⟨d0, d1, g0, g1⟩ := hTx.cells; clear hb))
  all_goals (go_wp2; go_ret; exact ⟨rfl, HS.out _ hTx, hFr.set _ _ rfl⟩)
/- bytes are eaten as long as a closure says so. -/
theorem takeW_succ {P : UInt8 → Bool} {r : List UInt8} {k : Nat} (h : r.take k ++ (r.drop k).takeWhile P = r.takeWhile P) (hk : k < r.length) :
    (P r[k] = true → r.take (k + 1) ++ (r.drop (k + 1)).takeWhile P = r.takeWhile P) ∧ (P r[k] = false → r.takeWhile P = r.take k) := by
  have e : r.drop k = r[k] :: r.drop (k + 1) := List.drop_eq_getElem_cons hk
  rw [e, List.takeWhile_cons] at h
  constructor
  · intro hp
    rw [hp] at h
    simp only [if_true] at h
    rw [List.take_succ_eq_append_getElem hk, List.append_assoc]
    exact h
  · intro hp
    rw [hp] at h
    simp at h
    exact h.symm
theorem dropW_take {P : UInt8 → Bool} {r : List UInt8} {k : Nat} (h : r.takeWhile P = r.take k) (_ : k ≤ r.length) : r.dropWhile P = r.drop k := by
  have e1 : r.takeWhile P ++ r.dropWhile P = r := List.takeWhile_append_dropWhile
  have e2 : r.take k ++ r.drop k = r := List.take_append_drop k r
  rw [h] at e1
  exact List.append_cancel_left (e1.trans e2.symm)
set_option maxRecDepth 100000 in
theorem eat_any (K b p n : Nat) (P : UInt8 → Bool) (S : Value) (r : List UInt8) (w : World) (hT : Tx w p r n) (hr : r.length ≤ 1000000) (hn : n ≤ 1000000) (hS : w.cell? ⟨b, 0, none⟩ = some S)
    (he : ∀ args w, (callFunc K args).run Tryz.prog w = .ok (.enter K args) w)
    (HC : ∀ (c : UInt8) (W : World), W.cell? ⟨b, 0, none⟩ = some S → Calls Tryz.prog K #[.int .u8 (c.toNat : Int), .pointer (some ⟨b, 0, none⟩)] W fun e w' => e = .returned (.bool (P c)) ∧ w' = W) :
    Calls Tryz.prog 113 #[.pointer (some ⟨p, 0, none⟩), .func (Fn.func K) #[] #[.pointer (some ⟨b, 0, none⟩)]] w fun e w' => e = .returned (.string (txt (r.takeWhile P))) ∧ Tx w' p (r.dropWhile P) (n + c10 (r.takeWhile P)) ∧ FrP p w w' := by
  obtain ⟨c0, c1, f0, f1⟩ := hT.cells
  have HK : Hid (∀ k, k ≤ r.length → r.takeWhile P = r.take k → Calls Tryz.prog 188 #[.pointer (some ⟨p, 0, none⟩), .int .i64 (k : Int)] w fun e w' => e = .returned (.string (txt (r.takeWhile P))) ∧ Tx w' p (r.dropWhile P) (n + c10 (r.takeWhile P)) ∧ FrP p w w') := fun k hk h => by
    have := take_any p k n r w hT hk hr hn
    rw [← h, ← dropW_take h hk] at this
    exact this
  have HCC : Hid (∀ c : UInt8, _) := fun c => HC c w hS
  obtain ⟨T, hTT⟩ : ∃ T, T = txt r := ⟨_, rfl⟩
  have hsz : T.size = r.length := by rw [hTT, txt_size]
  have HG : Hid (∀ (k : Nat) (h : k < T.size) (h' : k < r.length), T[k] = r[k]) := fun k h h' => by subst hTT; simp [txt, ByteArray.getElem_eq_getElem_data]
  rw [← hTT] at c0
  have HZ := hide hsz
  have hTm : T.size ≤ 1000000 := by omega
  clear hTT hsz hT HC hS
  generalize hA : txt (r.takeWhile P) = A at *
  generalize n + c10 (r.takeWhile P) = N at *
  generalize r.dropWhile P = R at *
  clear hA
  go_enter Tryz.func113, Tryz.ntmps113
  go_wp2
  go_loop [5] (fun vi => ∃ k : Nat, vi = .int .i64 (k : Int) ∧ k ≤ T.size ∧ Hid (r.take k ++ (r.drop k).takeWhile P = r.takeWhile P)) (fun vi => T.size - (intOf vi).toNat)
  case atStart => exact ⟨0, rfl, by omega, by simp [Hid]⟩
  case round =>
    obtain ⟨k, rfl, hk, HI⟩ := hrel
    by_cases hlt : k < T.size
    · have hltl : k < r.length := by rw [← HZ.out]; exact hlt
      have hg := HG.out k hlt hltl
      have hst := takeW_succ HI.out hltl
      have HD := hide (HCC.out T[k])
      have hkI : (k : Int) < (T.size : Int) := by omega
      cases hp : P T[k] with
      | true =>
        rw [hp] at HD
        have HE := hide (hst.1 (by rw [← hg]; exact hp))
        clear hst hp hg HI
        go_wp2_with fail
        refine HD.out.mono ?_
        rintro e w' ⟨rfl, rfl⟩
        go_wp2
        exact ⟨⟨k + 1, by congr 1, by omega, HE⟩, by simp [intOf]; omega⟩
      | false =>
        rw [hp] at HD
        have HE := hide (HK.out k (by omega) (hst.2 (by rw [← hg]; exact hp)))
        clear hst hp hg HI
        go_wp2_with fail
        refine HD.out.mono ?_
        rintro e w' ⟨rfl, rfl⟩
        go_wp2_with fail
        refine HE.out.mono ?_
        rintro e w1 ⟨rfl, h1, h2⟩
        have H1 := hide h1; have H2 := hide h2
        clear h1 h2
        go_wp2
        go_ret
        exact ⟨rfl, H1.out, H2.out⟩
    · have hkk : k = T.size := by omega
      have HE := hide (HK.out k (by rw [← HZ.out]; omega) (by
        have := HI.out
        rw [List.drop_of_length_le (by rw [← HZ.out]; omega)] at this
        simpa using this.symm))
      have hkI : ¬ ((k : Int) < (T.size : Int)) := by omega
      clear hkk HI
      go_wp2_with fail
      refine HE.out.mono ?_
      rintro e w1 ⟨rfl, h1, h2⟩
      have H1 := hide h1; have H2 := hide h2
      clear h1 h2
      go_wp2
      go_ret
      exact ⟨rfl, H1.out, H2.out⟩
end Go.Proofs.YtfanhdjebmdniaaGreatDoor
