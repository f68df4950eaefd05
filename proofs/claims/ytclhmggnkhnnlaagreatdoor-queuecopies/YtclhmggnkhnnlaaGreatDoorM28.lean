/- Pieces of the proof: TwEm. -/
import Derived.Test.YtclhmggnkhnnlaaGreatDoorM27
import Derived.Test.YtclhmggnkhnnlaaGreatDoorM24
import Derived.RegionTactic
/- LeftEffects of a twin. -/
namespace Go.Proofs.YtclhmggnkhnnlaaGreatDoor
open Go.RowKit

theorem exec_loadW {P : Program} {w : World} {o : Oper} {a : Act} (t : TypeId) (x : Operand) (ho : o.op = .load t x) (b off : Nat) (cs : List Value)
    (hx : a.eval x = .pointer (some ⟨b, off, none⟩)) (ha : ∀ w, (isAgg t).run P w = .ok true w) (hs : ∀ w, (sizeOf t).run P w = .ok cs.length w) (hb : ∀ j u, cs[j]? = some u → w.cell? ⟨b, off + j, none⟩ = some u) : (execOp a.eval o).run P w = .ok (.value (.agg cs.toArray)) w := by
  have h2 : (Instr.loadAt t (.pointer (some ⟨b, off, none⟩))).run P w = .ok (.agg cs.toArray) w := by
    simp [Instr.loadAt, Instr.sureAddr, run_loadW ha hs hb]
  simp [execOp, ho, hx, h2, Result.andThen]
set_option maxRecDepth 100000 in
set_option maxHeartbeats 8000000 in
theorem leftEfs_yes (B g c : Nat) (a : Option Addr) (cap : Nat) (D : Ef → List Nb) (l zs : List Ef) (w : World) (hl : l.length ≤ 900000) (hr : RdG Ef.cells 10 w a l) (hgz : ∀ y ∈ l, y.dn = (D y).length ∧ (D y).length ≤ 1000000 ∧ RdN w y.da (D y)) (hz : zs.length = l.length) (hO : w.ownsRow B 95 10 (.slice (some ⟨g, 0, none⟩) (l.length + 1) c) (l.length + 1) (flat Ef.cells (zs ++ [spF]))) (htw : ∀ i (h : i < zs.length) (h' : i < l.length), TwEf w B l[i] (D l[i]) zs[i]) (hc : l.length + 1 ≤ c) (hcm : c ≤ maxLen) :
    Calls Tryz.prog 32 #[.slice (some ⟨g, 0, none⟩) l.length c, .slice a l.length cap] w fun e w' => e = .returned (.bool true) ∧ Below w.heap.size w w' := by
  have HR := hide hr
  have HO : Hid (∀ k (h : k < zs.length) j u, (zs[k].cells)[j]? = some u → w.cell? ⟨g, k * 10 + j, none⟩ = some u) := fun k h j u hu => by
    have hj : j < 10 := by have := (List.getElem?_eq_some_iff.1 hu).1; rw [ef_len] at this; exact this
    have h0 := flat_get ef_len (zs ++ [spF]) k j (by simp; omega) hj
    rw [World.ownsRow.cellAt hO (k * 10 + j) (by omega), h0, List.getElem_append_left h]; exact hu
  have HE : Hid (w.cell? ⟨g, l.length * 10 + 2, none⟩ = some (.int .i64 77) ∧ ∀ j u, (spF.cells)[j]? = some u → w.cell? ⟨g, l.length * 10 + j, none⟩ = some u) := by
    have key : ∀ j u, (spF.cells)[j]? = some u → w.cell? ⟨g, l.length * 10 + j, none⟩ = some u := fun j u hu => by
      have hj : j < 10 := by have := (List.getElem?_eq_some_iff.1 hu).1; rw [ef_len] at this; exact this
      have h0 := flat_get ef_len (zs ++ [spF]) l.length j (by simp; omega) hj
      rw [World.ownsRow.cellAt hO (l.length * 10 + j) (by omega), h0, List.getElem_append_right (by omega)]
      simp only [hz, Nat.sub_self, List.getElem_singleton]; exact hu
    exact ⟨key 2 _ rfl, key⟩
  have HG : Hid (g < w.heap.size) := (World.ownsRow.lt hO g rfl).2
  have HZ := hide hz
  have HLF : Hid (∀ i (h : i < zs.length) (h' : i < l.length) W, Below w.heap.size w W → _) := fun i h h' W hb => leftEf_yes l[i] zs[i] (D l[i]) W (hgz _ (List.getElem_mem h')).1 (hgz _ (List.getElem_mem h')).2.1 ((hgz _ (List.getElem_mem h')).2.2.below hb) ((htw i h h').below hb)
  have hcI : decide ((c : Int) ≤ (l.length : Int)) = false := by simp; omega
  have hcJ : ((c : Int) ≤ (l.length : Int)) = False := by simp; omega
  have hlI1 : (l.length : Int) + 1 ≤ (c : Int) := by omega
  have hcm' : c ≤ 9223372036854775807 := by unfold maxLen at hcm; omega
  have wl : IntKind.i64.wrap ((l.length : Int) + 1) = (l.length : Int) + 1 := by rw [IntKind.wrap_i64]; omega
  clear hr hO htw hz hcm hgz
  go_enter Tryz.func32, Tryz.ntmps32
  go_wp2
  go_loopw [5] (fun i wr => ∃ k : Nat, k ≤ l.length ∧ i = .int .i64 k ∧ Below w.heap.size w wr) (fun i _ => l.length - (intOf i).toNat)
  case atStart => exact ⟨0, by omega, rfl, Below.refl _ _⟩
  case round =>
    obtain ⟨k, hk, rfl, hnx⟩ := hrel
    have HN := hide hnx
    by_cases hlt : k < l.length
    · have hzk : k < zs.length := by have := HZ.out; omega
      obtain ⟨p, off, rfl, hp, hcl⟩ := (HR.out.below hnx).get (by omega)
      have HX : Hid (∀ W, Below wr.heap.size wr W → ∀ j u, (l[k].cells)[j]? = some u → W.cell? ⟨p, off + k * 10 + j, none⟩ = some u) := fun W hb j u hu => (hb.cell (p := ⟨p, _, none⟩) hp).trans (hcl k hlt j u hu)
      have HY : Hid (∀ W, Below wr.heap.size wr W → ∀ j u, (zs[k].cells)[j]? = some u → W.cell? ⟨g, k * 10 + j, none⟩ = some u) := fun W hb j u hu => ((bstep hnx hb).cell (p := ⟨g, _, none⟩) HG.out).trans (HO.out k hzk j u hu)
      have hkI : (k : Int) < (l.length : Int) := by omega
      have HLk : Hid (∀ W, Below w.heap.size w W → _) := fun W hb => HLF.out k hzk hlt W hb
      clear hcl hnx HR HO HLF HE hp
      have HLX : Hid (l[k].cells.length = 10) := rfl
      have HLZ : Hid (zs[k].cells.length = 10) := rfl
      generalize l[k].cells = xs at *
      generalize zs[k].cells = ys at *
      go_wp2
      have hS0 : (fun w' => Below wr.heap.size wr w') wr.drew := (Below.refl _ _).drew
      refine wp_region_held_drew (S := fun w' => Below wr.heap.size wr w') (by kernel_rfl) hS0 (fun hHeld => ?_)
      clear hS0
      generalize wr.drew = w2 at *
      refine wpAnyH_take (i := 0) (v := ?_) rfl (by kernel_rfl) (by kernel_rfl) (by kernel_rfl) (fun _ _ _ h => h) (Or.inl ⟨by rfl, ?_⟩) hHeld ?_
      rotate_left
      · (intro w hSw; clear hSw; go_simp; try (with_reducible rfl))
      refine wpAnyH_take (i := 1) (v := ?_) rfl (by kernel_rfl) (by kernel_rfl) (by kernel_rfl) (fun _ _ _ h => h) (Or.inl ⟨by rfl, ?_⟩) hHeld ?_
      rotate_left
      · (intro w hSw; clear hSw; go_simp; try (with_reducible rfl))
      refine wpAnyH_take (i := 2) (v := ?_) rfl (by kernel_rfl) (by kernel_rfl) (by kernel_rfl) (fun _ _ _ h => h) (Or.inl ⟨by rfl, ?_⟩) hHeld ?_
      rotate_left
      · (intro w hSw; clear hSw; go_simp; try (with_reducible rfl))
      refine wpAnyH_take (i := 3) (v := .agg ys.toArray) rfl (by kernel_rfl) (by kernel_rfl) (by kernel_rfl) (fun _ _ _ h => h) (Or.inl ⟨by rfl, ?_⟩) hHeld ?_
      · (intro w hSw; apply exec_loadW; (case hb => exact HY.out w hSw); (case ho => rfl); (case hx => rfl); (case ha => exact aggEf); (case hs => rw [HLZ.out]; exact szEf))
      refine wpAnyH_take (i := 4) (v := ?_) rfl (by kernel_rfl) (by kernel_rfl) (by kernel_rfl) (fun _ _ _ h => h) (Or.inl ⟨by rfl, ?_⟩) hHeld ?_
      rotate_left
      · (intro w hSw; clear hSw; go_simp; try (with_reducible rfl))
      refine wpAnyH_take (i := 5) (v := ?_) rfl (by kernel_rfl) (by kernel_rfl) (by kernel_rfl) (fun _ _ _ h => h) (Or.inl ⟨by rfl, ?_⟩) hHeld ?_
      rotate_left
      · (intro w hSw; clear hSw; go_simp; try (with_reducible rfl))
      refine wpAnyH_take (i := 6) (v := ?_) rfl (by kernel_rfl) (by kernel_rfl) (by kernel_rfl) (fun _ _ _ h => h) (Or.inl ⟨by rfl, ?_⟩) hHeld ?_
      rotate_left
      · (intro w hSw; clear hSw; go_simp; try (with_reducible rfl))
      refine wpAnyH_take (i := 7) (v := .agg xs.toArray) rfl (by kernel_rfl) (by kernel_rfl) (by kernel_rfl) (fun _ _ _ h => h) (Or.inl ⟨by rfl, ?_⟩) hHeld ?_
      · (intro w hSw; apply exec_loadW; (case hb => exact HX.out w hSw); (case ho => rfl); (case hx => rfl); (case ha => exact aggEf); (case hs => rw [HLX.out]; exact szEf))
      refine wpAnyH_ready (rs := [8]) (by kernel_rfl) (by simp) ?_
      refine AllReadyH.cons rfl (fun K hK => ?_) AllReadyH.nil
      go_simp
      refine (HLk.out _ (bstep HN.out hHeld)).mono ?_
      rintro e w7 ⟨rfl, hb7⟩
      have B7 := hide (bstep (bstep HN.out hHeld) hb7)
      replace hHeld := bstep hHeld hb7
      clear hb7
      go_wp2_with fail
      refine hK.out _ _ hHeld (fun _ => ?_)
      clear hK K
      refine wpAnyH_take (i := 9) (v := ?_) rfl (by kernel_rfl) (by kernel_rfl) (by kernel_rfl) (fun _ _ _ h => h) (Or.inl ⟨by rfl, ?_⟩) hHeld ?_
      rotate_left
      · (intro w hSw; clear hSw; go_simp; try (with_reducible rfl))
      refine wpAnyH_done (by kernel_rfl) ?_ _
      clear hHeld
      go_wp2
      go_roundw
      case rel => exact ⟨k + 1, by omega, by go_num, B7.out⟩
      case measure => simp [intOf]; omega
    · obtain rfl : k = l.length := by omega
      have z0 := (hnx.cell (p := ⟨g, l.length * 10 + 2, none⟩) HG.out).trans HE.out.1
      have HY : Hid (∀ j u, (spF.cells)[j]? = some u → wr.cell? ⟨g, l.length * 10 + j, none⟩ = some u) := fun j u hu => (hnx.cell (p := ⟨g, _, none⟩) HG.out).trans (HE.out.2 j u hu)
      clear HR HO HLF hnx HE
      have hz4 := heap_alloc_new wr (.cells #[.int .u8 0, .string ⟨#[]⟩, .int .i64 0, .int .i64 0, .int .u64 0, .int .u64 0, .slice none 0 0, .int .i64 0, .string ⟨#[]⟩, .int .i64 0] 95)
      have HZ4 := hide hz4
      have HB4 := hide (HN.out.alloc HN.out.size (.cells #[.int .u8 0, .string ⟨#[]⟩, .int .i64 0, .int .i64 0, .int .u64 0, .int .u64 0, .slice none 0 0, .int .i64 0, .string ⟨#[]⟩, .int .i64 0] 95))
      clear hz4 z0
      have HSL : Hid (spF.cells.length = 10) := rfl
      have HS2 : Hid (spF.cells.toArray[2]? = some (.int .i64 77)) := rfl
      have HS1 := hide (ef_oneT spF)
      generalize spF.cells = sc at *
      go_wp2_with (first
        | (refine wpList_loadW rfl 95 _ rfl g (l.length * 10) sc rfl aggEf (by rw [HSL.out]; exact szEf) HY.out ?_)
        | (refine wpList_storeA rfl 95 _ _ rfl wr.heap.size sc _ 95 rfl rfl (by rw [HSL.out]; exact szEf) HZ4.out (by rw [HSL.out]; rfl) HS1.out ?_; intro w5 hw5; have z5 : w5.cell? ⟨wr.heap.size, 2, none⟩ = some (.int .i64 77) := (by rw [hw5]; exact (cellA (got0 HZ4.out (by rw [HSL.out]; rfl)) 2).trans HS2.out); have B5 : Hid (Below w.heap.size w w5) := HB4.out.trans ((by rw [hw5]; exact fr_all _ _ _ _ : Fr (· = wr.heap.size) _ w5).below (fun b e => by have := HN.out.size; omega) HB4.out.size); clear hw5))
      go_ret
      exact ⟨rfl, B5.out⟩
end Go.Proofs.YtclhmggnkhnnlaaGreatDoor
