/- Pieces of the proof: QxS. -/
import Derived.Test.YtclhmggnkhnnlaaGreatDoorM16
import Derived.Deep.LoopGhost
/- How great a pass is. -/
namespace Go.Proofs.YtclhmggnkhnnlaaGreatDoor
open Go.RowKit

def szEff (e : Ef) : Nat := if 1 + e.array.size + e.table.size ≤ 1048576 then 1 + e.array.size + e.table.size + e.dn else 1 + e.array.size + e.table.size
def szF : Nat → List Ef → Nat
  | n, [] => n
  | n, e :: l => if n ≤ 1048576 then szF (n + szEff e) l else n
def efz (l : List Ef) : Nat := szF l.length l
def psz (p : Ps) : Nat := if 1 + p.xs.length ≤ 1048576 then 1 + p.xs.length + efz p.es else 1 + p.xs.length
theorem szF_le : ∀ (l : List Ef) (n : Nat), n ≤ szF n l
  | [], n => Nat.le_refl _
  | e :: l, n => by
    rw [szF]
    split
    · have := szF_le l (n + szEff e); omega
    · omega
theorem szF_mem : ∀ (l : List Ef) (n : Nat), szF n l ≤ 1048576 → ∀ e ∈ l, szEff e ≤ szF n l
  | [], _, _, e, h => by simp at h
  | x :: l, n, hs, e, h => by
    rw [szF] at hs ⊢
    by_cases hn : n ≤ 1048576
    · rw [if_pos hn] at hs ⊢
      rcases List.mem_cons.1 h with rfl | h
      · have := szF_le l (n + szEff e); omega
      · exact szF_mem l _ hs e h
    · rw [if_neg hn] at hs; omega
theorem szF_bd (B : Nat) : ∀ (l : List Ef) (n : Nat), (∀ e ∈ l, szEff e ≤ B) → n ≤ 1048576 + B → szF n l ≤ 1048576 + B
  | [], n, _, hn => hn
  | e :: l, n, h, hn => by
    rw [szF]
    split
    · exact szF_bd B l _ (fun x hx => h x (by simp [hx])) (by have := h e (by simp); omega)
    · exact hn
theorem szF_step (l : List Ef) (k n : Nat) (h : k < l.length) (hn : n ≤ 1048576) : szF n (l.drop k) = szF (n + szEff l[k]) (l.drop (k + 1)) := by
  rw [List.drop_eq_getElem_cons h, szF, if_pos hn]
theorem szF_stop (l : List Ef) (n : Nat) (hn : 1048576 < n) : szF n l = n := by
  cases l with
  | nil => rfl
  | cons e l => rw [szF, if_neg (by omega)]
/- How long the parts of an effect can be. -/
def EfB (e : Ef) : Prop := e.array.size ≤ 140737488355328 ∧ e.table.size ≤ 140737488355328 ∧ e.dn ≤ 140737488355328
theorem szEf10 : ∀ w, (sizeOf 95).run Tryz.prog w = .ok 10 w := fun w => by kernel_rfl
theorem szEff_bd {e : Ef} (h : EfB e) : szEff e ≤ 500000000000000 := by
  obtain ⟨h1, h2, h3⟩ := h
  unfold szEff; split <;> omega
theorem szEff_small {e : Ef} (h : szEff e ≤ 30000) : e.dn ≤ 30000 := by
  unfold szEff at h
  split at h <;> omega
theorem efz_bd {l : List Ef} (hl : l.length ≤ 140737488355328) (h : ∀ e ∈ l, EfB e) : efz l ≤ 600000000000000 := by
  have := szF_bd 500000000000000 l l.length (fun e he => szEff_bd (h e he)) (by omega)
  unfold efz; omega
/- A pass that is not great has not much in it. -/
theorem psz_small {p : Ps} (h : psz p ≤ 20000) : p.xs.length ≤ 20000 ∧ p.es.length ≤ 20000 ∧ ∀ e ∈ p.es, e.dn ≤ 20000 := by
  unfold psz at h
  split at h
  · have h1 := szF_le p.es p.es.length
    unfold efz at h
    refine ⟨by omega, by omega, fun e he => ?_⟩
    have h2 := szF_mem p.es p.es.length (by omega) e he
    have h3 : szEff e ≤ 20000 := by omega
    unfold szEff at h3
    split at h3 <;> omega
  · omega
theorem nbSize_any (a : Option Addr) (n c : Nat) (w : World) : Calls Tryz.prog 201 #[.slice a n c] w fun e w' => e = .returned (.int .i64 (n : Int)) ∧ w' = w := by
  go_enter Tryz.func201, Tryz.ntmps201
  go_wp2
  go_ret
  exact ⟨rfl, rfl⟩
theorem bySize_any (a : Option Addr) (n c : Nat) (w : World) : Calls Tryz.prog 16 #[.slice a n c] w fun e w' => e = .returned (.int .i64 (n : Int)) ∧ w' = w := by
  go_enter Tryz.func16, Tryz.ntmps16
  go_wp2
  go_ret
  exact ⟨rfl, rfl⟩
set_option maxHeartbeats 2000000 in
theorem efSize_any (y : Ef) (hb : EfB y) (w : World) : Calls Tryz.prog 125 #[.agg y.cells.toArray] w fun e w' => e = .returned (.int .i64 (szEff y : Nat)) ∧ Below w.heap.size w w' := by
  unfold szEff
  obtain ⟨kind, array, cell, vw, vh, vl, da, dn, dc, group, table, entry⟩ := y
  obtain ⟨h1, h2, h3⟩ := hb
  simp only at h1 h2 h3
  have hh := heap_alloc_new w (.cells (Ef.cells ⟨kind, array, cell, vw, vh, vl, da, dn, dc, group, table, entry⟩).toArray 95)
  have c1 : (w.alloc (.cells (Ef.cells ⟨kind, array, cell, vw, vh, vl, da, dn, dc, group, table, entry⟩).toArray 95)).cell? ⟨w.heap.size, 1, none⟩ = some (.string array) := cellA hh 1
  have c6 : (w.alloc (.cells (Ef.cells ⟨kind, array, cell, vw, vh, vl, da, dn, dc, group, table, entry⟩).toArray 95)).cell? ⟨w.heap.size, 8, none⟩ = some (.string table) := cellA hh 8
  have c4 : (w.alloc (.cells (Ef.cells ⟨kind, array, cell, vw, vh, vl, da, dn, dc, group, table, entry⟩).toArray 95)).cell? ⟨w.heap.size, 6, none⟩ = some (.slice da dn dc) := cellA hh 6
  clear hh
  generalize (Ef.cells ⟨kind, array, cell, vw, vh, vl, da, dn, dc, group, table, entry⟩).toArray = cs at *
  have HA : Hid (∀ W, _) := fun W => nbSize_any da dn dc W
  have e1 : IntKind.i64.wrap (1 + (array.size : Int)) = ((1 + array.size : Nat) : Int) := by rw [IntKind.wrap_i64]; omega
  have e2 : IntKind.i64.wrap (((1 + array.size : Nat) : Int) + (table.size : Int)) = ((1 + array.size + table.size : Nat) : Int) := by rw [IntKind.wrap_i64]; omega
  have e3 : IntKind.i64.wrap (((1 + array.size + table.size : Nat) : Int) + (dn : Int)) = ((1 + array.size + table.size + dn : Nat) : Int) := by rw [IntKind.wrap_i64]; omega
  generalize hA : 1 + array.size = A at *
  generalize hB : A + table.size = B at *
  generalize hC : B + dn = C at *
  clear hA hB hC h1 h2 h3
  by_cases c1 : B ≤ 1048576
  · have d1 : ((B : Int) ≤ 1048576) = True := by simp; omega
    rw [if_pos c1]
    clear c1
    go_enter Tryz.func125, Tryz.ntmps125
    go_wp2_with (go_at_call 201; refine (HA.out _).mono ?_; rintro e w1 ⟨rfl, rfl⟩)
    go_ret
    exact ⟨rfl, below1 _ _⟩
  · have d1 : ((B : Int) ≤ 1048576) = False := by simp; omega
    rw [if_neg c1]
    clear c1
    go_enter Tryz.func125, Tryz.ntmps125
    go_wp2
    go_ret
    exact ⟨rfl, below1 _ _⟩
set_option maxRecDepth 100000 in
set_option maxHeartbeats 4000000 in
theorem efsSize_any (a : Option Addr) (cap : Nat) (l : List Ef) (w : World) (hr : RdG Ef.cells 10 w a l) (hE : ∀ e ∈ l, EfB e) (hl : l.length ≤ 140737488355328) : Calls Tryz.prog 17 #[.slice a l.length cap] w fun e w' => e = .returned (.int .i64 (efz l : Nat)) ∧ Below w.heap.size w w' := by
  have HR := hide hr
  have HZ : Hid (∀ k (h : k < l.length), szEff l[k] ≤ 500000000000000) := fun k h => szEff_bd (hE _ (List.getElem_mem h))
  have HC : Hid (∀ k (h : k < l.length) W, _) := fun k h W => efSize_any l[k] (hE _ (List.getElem_mem h)) W
  have HL := hide hl
  clear hr hE
  go_enter Tryz.func17, Tryz.ntmps17
  go_wp2
  go_loopw [3, 4] (fun n i wr => ∃ k m : Nat, k ≤ l.length ∧ i = .int .i64 k ∧ n = .int .i64 (m : Nat) ∧ szF m (l.drop k) = efz l ∧ m ≤ 600000000000000 ∧ Below w.heap.size w wr) (fun _ i _ => l.length - (intOf i).toNat)
  case atStart => exact ⟨0, l.length, by omega, rfl, rfl, by simp [efz], by omega, Below.refl _ _⟩
  case round =>
    obtain ⟨k, m, hk, rfl, rfl, hsz, hm, hb⟩ := hrel
    have HS := hide hsz
    have HW := hide hb
    clear hsz hb
    by_cases hlt : k < l.length
    · have hlI : (k : Int) < (l.length : Int) := by omega
      by_cases hmost : m ≤ 1048576
      · have d1 : ((m : Int) ≤ 1048576) = True := by simp; omega
        obtain ⟨p, off, rfl, hp, hcl⟩ := (HR.out.below HW.out).get (by omega)
        have hc := hcl k hlt
        have HD : Hid (∀ W, _) := HC.out k hlt
        have hz := HZ.out k hlt
        have HT : Hid (szF (m + szEff l[k]) (l.drop (k + 1)) = efz l) := by
          show _ = _
          rw [← HS.out, szF_step l k m hlt hmost]
        clear hcl hp HR HC HZ
        generalize szEff l[k] = z at *
        have HLN : Hid (l[k].cells.length = 10) := rfl
        have HCC := hide hc
        clear hc
        generalize l[k].cells = cs at *
        have hw1 : IntKind.i64.wrap ((m : Int) + (z : Int)) = ((m + z : Nat) : Int) := by rw [IntKind.wrap_i64]; omega
        have hkb : k < 140737488355328 := by have := HL.out; omega
        go_wp2_with (first
          | (refine wpList_loadW rfl 95 _ rfl p (off + k * 10) cs rfl aggEf (by rw [HLN.out]; exact szEf10) HCC.out ?_)
          | (go_at_call 125; refine (HD.out _).mono ?_; rintro e w1 ⟨rfl, hb⟩; have B1 := hide hb; clear hb))
        go_roundw
        case rel => exact ⟨k + 1, m + z, by omega, by go_num, by first | rfl | (go_num; done), HT.out, by omega, bstep HW.out B1.out⟩
        case measure => simp [intOf]; omega
      · have d1 : ((m : Int) ≤ 1048576) = False := by simp; omega
        have HT := hide (by have := HS.out; rw [szF_stop _ _ (by omega)] at this; exact this : m = efz l)
        clear HR HC HZ
        go_wp2
        go_ret
        exact ⟨by rw [← HT.out]; rfl, HW.out⟩
    · obtain rfl : k = l.length := by omega
      have HT := hide (by have := HS.out; rw [List.drop_of_length_le (by omega)] at this; exact this : m = efz l)
      clear HR HC HZ
      go_wp2
      go_ret
      exact ⟨by rw [← HT.out]; rfl, HW.out⟩
set_option maxHeartbeats 2000000 in
theorem psSize_any (p : Ps) (w : World) (hr : RdG Ef.cells 10 w p.ea p.es) (hE : ∀ e ∈ p.es, EfB e) (hl : p.es.length ≤ 140737488355328) (hx : p.xs.length ≤ 140737488355328) : Calls Tryz.prog 4 #[.agg p.cells.toArray] w fun e w' => e = .returned (.int .i64 (psz p : Nat)) ∧ Below w.heap.size w w' := by
  have hz := efz_bd hl hE
  unfold psz
  have hh := heap_alloc_new w (.cells p.cells.toArray 27)
  have b1 := below1 w (.cells p.cells.toArray 27)
  have c1 : (w.alloc (.cells p.cells.toArray 27)).cell? ⟨w.heap.size, 1, none⟩ = some (.slice p.pa p.xs.length p.pc) := cellA hh 1
  have c5 : (w.alloc (.cells p.cells.toArray 27)).cell? ⟨w.heap.size, 5, none⟩ = some (.slice p.ea p.es.length p.ec) := cellA hh 5
  have HE := hide (efsSize_any p.ea p.ec p.es _ (hr.below b1) hE hl)
  have HB : Hid (∀ W, _) := fun W => bySize_any p.pa p.xs.length p.pc W
  have B1 := hide b1
  clear hh hr hE hl b1
  generalize efz p.es = E at *
  generalize p.cells.toArray = cs at *
  generalize p.xs.length = X at *
  generalize p.es.length = L at *
  generalize p.pa = pa at *
  generalize p.pc = pc at *
  generalize p.ea = ea at *
  generalize p.ec = ec at *
  have e1 : IntKind.i64.wrap (1 + (X : Int)) = ((1 + X : Nat) : Int) := by rw [IntKind.wrap_i64]; omega
  have e2 : IntKind.i64.wrap (((1 + X : Nat) : Int) + (E : Int)) = ((1 + X + E : Nat) : Int) := by rw [IntKind.wrap_i64]; omega
  generalize hA : 1 + X = A at *
  generalize hB : A + E = C at *
  clear hA hB hx hz
  by_cases h1 : A ≤ 1048576
  · have d1 : ((A : Int) ≤ 1048576) = True := by simp; omega
    rw [if_pos h1]
    clear h1
    go_enter Tryz.func4, Tryz.ntmps4
    go_wp2_with (first
      | (go_at_call 16; refine (HB.out _).mono ?_; rintro e w1 ⟨rfl, rfl⟩)
      | (go_at_call 17; refine HE.out.mono ?_; rintro e w1 ⟨rfl, hb⟩; have B2 := hide hb; clear hb))
    go_ret
    exact ⟨rfl, bstep B1.out B2.out⟩
  · have d1 : ((A : Int) ≤ 1048576) = False := by simp; omega
    rw [if_neg h1]
    clear h1
    go_enter Tryz.func4, Tryz.ntmps4
    go_wp2_with (first
      | (go_at_call 16; refine (HB.out _).mono ?_; rintro e w1 ⟨rfl, rfl⟩))
    go_ret
    exact ⟨rfl, B1.out⟩
end Go.Proofs.YtclhmggnkhnnlaaGreatDoor
