/- The sign ahead. -/
import Derived.Test.YtfanhdjebmdniaaGreatDoorLD
import Derived.WalkMore
import Derived.Deep.MidRow
namespace Go.Proofs.YtfanhdjebmdniaaGreatDoor
open Go.RowKit

def sgs : List (List UInt8) := [[61, 61], [33, 61], [60, 61], [60, 60], [62, 62], [43, 43], [38, 38], [124, 124], [123], [125], [40], [41], [91], [93], [59], [58], [44], [46], [61], [60], [43], [45], [42], [38], [124], [94], [126]]
theorem sgs_len : sgs.length = 27 := rfl
def sb (i : Nat) : ByteArray := txt (sgs.getD i [])
def sgL : List Value := (List.range 27).map fun i => Value.string (sb i)
theorem sgL_len : sgL.length = 27 := rfl
theorem sgL_at (j : Nat) (h : j < 27) : sgL[j]? = some (Value.string (sb j)) := by simp [sgL, h]
def sgn (r : List UInt8) : List UInt8 := (sgs.find? fun s => s.isPrefixOf r).getD []
theorem sgn_at {r : List UInt8} {j : Nat} (hj : j < 27) (h : ∀ m, m < j → (sgs.getD m []).isPrefixOf r = false) (hp : (sgs.getD j []).isPrefixOf r = true) : sgn r = sgs.getD j [] := by
  have hjl : j < sgs.length := hj
  have e : ∀ m (hm : m < sgs.length), sgs.getD m [] = sgs[m] := fun m hm => by simp [List.getD, List.getElem?_eq_getElem hm]
  unfold sgn
  have : sgs.find? (fun s => s.isPrefixOf r) = some (sgs.getD j []) := by
    rw [List.find?_eq_some_iff_getElem]
    refine ⟨hp, j, hjl, (e j hjl).symm, fun m hm => ?_⟩
    rw [← e m (by omega), h m hm]; rfl
  rw [this]; rfl
theorem sgn_none {r : List UInt8} (h : ∀ m, m < 27 → (sgs.getD m []).isPrefixOf r = false) : sgn r = [] := by
  have e : ∀ m (hm : m < sgs.length), sgs.getD m [] = sgs[m] := fun m hm => by simp [List.getD, List.getElem?_eq_getElem hm]
  unfold sgn
  have : sgs.find? (fun s => s.isPrefixOf r) = none := by
    rw [List.find?_eq_none]
    intro x hx
    obtain ⟨m, hm, rfl⟩ := List.mem_iff_getElem.1 hx
    rw [← e m hm, h m hm]; simp
  rw [this]; rfl
theorem sg_small : ∀ j : Fin 27, (sgs.getD j.val []).length ≤ 2 := by decide +kernel
theorem pre_no {s r : List UInt8} {i : Nat} (hi : i < s.length) (h : i = r.length ∨ ∃ h' : i < r.length, r[i] ≠ s[i]) : s.isPrefixOf r = false := by
  cases hp : s.isPrefixOf r with
  | false => rfl
  | true =>
    rw [List.isPrefixOf_iff_prefix] at hp
    obtain ⟨t, rfl⟩ := hp
    rcases h with h | ⟨h', h⟩
    · rw [List.length_append] at h; omega
    · exact absurd (List.getElem_append_left hi) h
theorem pre_yes {s r : List UInt8} (h : r.take s.length = s.take s.length) : s.isPrefixOf r = true := by
  rw [List.isPrefixOf_iff_prefix, List.prefix_iff_eq_take]
  rw [h]; simp
theorem sg_index (j : Nat) (h : j < 27) (W : World) : (Instr.index 322 (.agg sgL.toArray) (.int .i64 (j : Int))).run Tryz.prog W = .ok (.string (sb j)) W := by
  have hu : Tryz.prog.underlying 322 = some (.array 27 9) := Tryz.underlying322
  have h2 := sgL_at j h
  simp [Instr.index, asIntOf, run_underlying hu, h, part, Tryz.isAgg9, h2]
theorem sgInfo : (Tryz.prog.info? 322).map (·.size) = some sgL.length := by kernel_rfl
set_option maxHeartbeats 4000000 in
set_option maxRecDepth 100000 in
theorem signAhead_any (r : List UInt8) (w : World) (hr : r.length ≤ 1000000) (hG : w.rangeAt 0 0 sgL) :
    Calls Tryz.prog 194 #[.string (txt r)] w fun e w' => e = .returned (.string (txt (sgn r))) ∧ Below w.heap.size w w' := by
  obtain ⟨T, hT⟩ : ∃ T, T = txt r := ⟨_, rfl⟩
  have hsz : T.size = r.length := by rw [hT, txt_size]
  have HG : Hid (∀ (k : Nat) (h : k < T.size) (h' : k < r.length), T[k] = r[k]) := fun k h h' => by subst hT; simp [txt, ByteArray.getElem_eq_getElem_data]
  rw [← hT]
  have HZ := hide hsz
  have hTm : T.size ≤ 1000000 := by omega
  have HR := hide hG
  have HI := hide sg_index
  clear hT hsz hr hG
  generalize hSV : (Value.agg sgL.toArray) = SV at HI
  go_enter Tryz.func194, Tryz.ntmps194
  go_wp2
  go_step3
  go_wp2
  go_step3
  go_wp2_with (first | (refine wpList_load_mid rfl 322 _ rfl 0 0 rfl sgL _ HR.out Tryz.underlying322 rfl sgInfo ?_; rw [hSV]))
  clear hSV
  go_loopg [7] 27 (fun g vi wr => ∃ j : Nat, vi = .int .i64 (j : Int) ∧ j ≤ 27 ∧ g = 27 - j ∧ Hid (Below w.heap.size w wr ∧ ∀ m, m < j → (sgs.getD m []).isPrefixOf r = false))
  case atStart => exact ⟨0, rfl, by omega, rfl, Below.refl _ _, fun m hm => by omega⟩
  case round =>
    obtain ⟨j, rfl, hj, rfl, HO⟩ := hrel
    by_cases hlt : j < 27
    · have hx := HI.out j hlt
      have hsm := sg_small ⟨j, hlt⟩
      simp only at hsm
      obtain ⟨s, hs⟩ : ∃ s, s = sgs.getD j [] := ⟨_, rfl⟩
      obtain ⟨B, hB⟩ : ∃ B, B = sb j := ⟨_, rfl⟩
      have hBz : B.size = s.length := by rw [hB, hs]; unfold sb; rw [txt_size]
      have HGB : Hid (∀ (k : Nat) (h : k < B.size) (h' : k < s.length), B[k] = s[k]) := fun k h h' => by subst hB hs; simp [sb, txt, ByteArray.getElem_eq_getElem_data]
      rw [← hB] at hx
      rw [← hs] at hsm
      have HBZ := hide hBz
      have hB2 : B.size ≤ 2 := by omega
      have HSJ := hide hs
      have HYes : Hid (s.isPrefixOf r = true → txt (sgn r) = B) := fun h => by
        rw [sgn_at hlt HO.out.2 (by rw [← HSJ.out]; exact h), hB]; rfl
      have HNo : Hid (s.isPrefixOf r = false → ∀ m, m < j + 1 → (sgs.getD m []).isPrefixOf r = false) := fun h m hm => by
        by_cases e : m = j
        · rw [e, ← HSJ.out]; exact h
        · exact HO.out.2 m (by omega)
      have HB := hide HO.out.1
      clear hs hB hBz hsm HO
      go_wp2
      go_loopg [12] 3 (fun g vi wr' => ∃ i : Nat, vi = .int .i64 (i : Int) ∧ i ≤ B.size ∧ g = 3 - i ∧ i ≤ T.size ∧ Hid (Below w.heap.size w wr' ∧ r.take i = s.take i))
      case atStart => exact ⟨0, rfl, by omega, rfl, by omega, HB.out, by simp⟩
      case round =>
        obtain ⟨i, rfl, hi, rfl, hiT, HQ⟩ := hrel
        by_cases hil : i < B.size
        · have hils : i < s.length := by rw [← HBZ.out]; exact hil
          by_cases hit : i = T.size
          · have HN := hide (HNo.out (pre_no hils (.inl (by rw [← HZ.out]; exact hit))))
            have HW := hide HQ.out.1
            have hitB : ((i : Int) == (T.size : Int)) = true := by simpa using (show (i : Int) = (T.size : Int) by omega)
            have hilI : (i : Int) < (B.size : Int) := by omega
            clear HQ HYes HNo hit
            go_wp2
            go_region
            go_wp2
            go_roundg (27 - (j + 1))
            case measure => omega
            case rel => exact ⟨j + 1, by congr 1, by omega, rfl, HW.out.drew, HN.out⟩
          · have hiT' : i < T.size := by omega
            have hir : i < r.length := by rw [← HZ.out]; exact hiT'
            have h1 := HG.out i hiT' hir
            have h2 := HGB.out i hil hils
            have hitB : ((i : Int) == (T.size : Int)) = false := by simpa using (show ¬ (i : Int) = (T.size : Int) by omega)
            have hilI : (i : Int) < (B.size : Int) := by omega
            have hiTI : (i : Int) < (T.size : Int) := by omega
            by_cases heq : T[i] = B[i]
            · have HQ2 : Hid (Below w.heap.size w wr.drew ∧ r.take (i + 1) = s.take (i + 1)) := by
                refine ⟨HQ.out.1.drew, ?_⟩
                rw [List.take_succ_eq_append_getElem hir, List.take_succ_eq_append_getElem hils, HQ.out.2, ← h1, ← h2, heq]
              have hneB : ((((T[i]).toNat : Nat) : Int) != (((B[i]).toNat : Nat) : Int)) = false := by rw [heq]; simp
              clear HQ HYes HNo hit h1 h2
              go_wp2
              go_region
              go_wp2
              go_roundg (3 - (i + 1))
              case measure => omega
              case rel => exact ⟨i + 1, by congr 1, by omega, rfl, by omega, HQ2.out⟩
            · have HN := hide (HNo.out (pre_no hils (.inr ⟨hir, by rw [← h1, ← h2]; exact heq⟩)))
              have HW := hide HQ.out.1
              have hneB : ((((T[i]).toNat : Nat) : Int) != (((B[i]).toNat : Nat) : Int)) = true := by
                have : ¬ (T[i]).toNat = (B[i]).toNat := fun e => heq (UInt8.toNat_inj.1 e)
                simp; omega
              clear HQ HYes HNo hit h1 h2 heq
              go_wp2
              go_region
              go_wp2
              go_roundg (27 - (j + 1))
              case measure => omega
              case rel => exact ⟨j + 1, by congr 1, by omega, rfl, HW.out.drew, HN.out⟩
        · have hiB : i = B.size := by omega
          have hnl : ¬ ((i : Int) < (B.size : Int)) := by omega
          have HY := hide (HYes.out (pre_yes (by
            have := HQ.out.2
            rw [hiB, HBZ.out] at this
            exact this)))
          have HW := hide HQ.out.1
          clear HQ HYes HNo hiB
          go_wp2
          try rw [Exit.noGoto_ret]
          go_ret
          exact ⟨by rw [HY.out]; rfl, HW.out⟩
    · have hj27 : j = 27 := by omega
      subst hj27
      have HE := hide (sgn_none HO.out.2)
      have HW := hide HO.out.1
      clear HO
      go_wp2
      try rw [Exit.noGoto_ret]
      go_ret
      exact ⟨by rw [HE.out]; rfl, HW.out⟩
end Go.Proofs.YtfanhdjebmdniaaGreatDoor
