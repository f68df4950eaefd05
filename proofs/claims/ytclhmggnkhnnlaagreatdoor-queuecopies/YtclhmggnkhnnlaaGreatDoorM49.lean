/- Pieces of the proof: QxW. -/
import Derived.Test.YtclhmggnkhnnlaaGreatDoorM48
import Derived.Deep.CutBlock
/- pointsmanlaw17.QueueCopies, walked: the law itself. -/
namespace Go.Proofs.YtclhmggnkhnnlaaGreatDoor
open Go.RowKit

theorem bk0_one : ∀ v ∈ bk0.toList, v.oneCell' = true := by
  intro v hv
  simp [bk0] at hv
  rcases hv with rfl | rfl <;> rfl
set_option maxRecDepth 100000 in
theorem bk_size : ∀ w : World, (sizeOf 76).run Tryz.prog w = .ok bk0.size w := fun w => by rfl
theorem ps_one (z : Ps) : ∀ u ∈ z.cells, u.oneCell' = true := fun u hu => by
  simp only [Ps.cells, List.mem_cons, List.not_mem_nil, or_false] at hu
  rcases hu with rfl | rfl | rfl | rfl | rfl | rfl <;> rfl
theorem qc_bd {G E X : Nat} (h1 : G ≤ 1000) (h2 : E ≤ 20000) (h3 : X ≤ 20000) : G * E ≤ 20000000 ∧ G * E * (10 + X) ≤ 400200000000 := by
  have k1 : G * E ≤ 1000 * 20000 := Nat.mul_le_mul h1 h2
  have k2 : G * E * (10 + X) ≤ 20000000 * 20010 := Nat.mul_le_mul (by omega) (by omega)
  omega
theorem d4_no {n : Nat} (h : n ≤ 2000000) : decide ((n : Int) > 2000000) = false ∧ (2000000 < n) = False := ⟨by simp; omega, by simp; omega⟩
theorem d4_yes {n : Nat} (h : ¬ n ≤ 2000000) : decide ((n : Int) > 2000000) = true ∧ (2000000 < n) = True := ⟨by simp; omega, by simp; omega⟩
theorem gs_bd (gs : List Gp) (h : ∀ g ∈ gs, g.ps.length ≤ 140737488355328) (hl : gs.length ≤ 1000) (k : Nat) : gsum (gs.take k) ≤ 140737488355328000 := by
  have h1 := gsum_bd 140737488355328 (gs.take k) (fun g hg => h g (List.mem_of_mem_take hg))
  have h2 : (gs.take k).length ≤ 1000 := by rw [List.length_take]; omega
  generalize (gs.take k).length = n at *
  omega
set_option maxRecDepth 100000 in
set_option maxHeartbeats 16000000 in
theorem queueCopies_walk (a : Option Addr) (cap : Nat) (gs : List Gp) (p : Ps) (D : Ef → List Nb) (w : World) (h : QcA w a gs p D) : Calls Tryz.prog 3 #[.slice a gs.length cap, .agg p.cells.toArray] w fun e w' => e = .returned (.bool true) ∧ Below w.heap.size w w' := by
  have HA := hide h
  obtain ⟨pcs, hpc⟩ : ∃ pcs, pcs = p.cells := ⟨_, rfl⟩
  have HP6 : Hid (p.cells.length = 6) := rfl
  have HF1 : Hid (p.cells.toArray[1]? = some (.slice p.pa p.xs.length p.pc)) := rfl
  have HF5 : Hid (p.cells.toArray[5]? = some (.slice p.ea p.es.length p.ec)) := rfl
  rw [← hpc] at HP6 HF1 HF5 ⊢
  have HPC := hide hpc
  obtain ⟨w0, hw0⟩ : ∃ w0, w0 = w.alloc (.cells pcs.toArray 27) := ⟨_, rfl⟩
  have HBX : Hid (w0.heap[w.heap.size]? = some (.cells pcs.toArray 27 (0, 0))) := by show _ = _; rw [hw0]; exact heap_alloc_new w _
  have HB0 : Hid (Below w.heap.size w w0) := by show Below _ _ _; rw [hw0]; exact below1 _ _
  have HW0 := hide hw0
  have HPS : Hid (∀ W, Below w.heap.size w W → _) := fun W hb => psSize_any p W (HA.out.re.below hb) (fun e he => (HA.out.eb e he).1) HA.out.le (by have := HA.out.lx; omega)
  rw [← hpc] at HPS
  have HLV : Hid (∀ W, _) := fun W => lives_any W
  have HGB : Hid (∀ k, gs.length ≤ 1000 → gsum (gs.take k) ≤ 140737488355328000) := fun k hl => gs_bd gs (fun g hg => (HA.out.rz g hg).2) hl k
  have hlg := h.lg
  clear h hpc hw0
  go_enter Tryz.func3, Tryz.ntmps3
  go_wp2
  rw [← HW0.out]
  go_loopw [5, 6] (fun n i wr => ∃ (k : Nat) (m : Int), k ≤ gs.length ∧ i = .int .i64 k ∧ n = .int .i64 m ∧ (gs.length ≤ 1000 → m = (gsum (gs.take k) : Nat)) ∧ Below w0.heap.size w0 wr) (fun _ i _ => gs.length - (intOf i).toNat)
  case atStart => exact ⟨0, 0, by omega, rfl, rfl, fun _ => by simp [gsum], Below.refl _ _⟩
  case round =>
    obtain ⟨k, m, hk, rfl, rfl, hm, hb⟩ := hrel
    have HM := hide hm
    have HN := hide hb
    clear hm hb
    by_cases hlt : k < gs.length
    · obtain ⟨q, off, rfl, _, hc⟩ := (HA.out.rg.below (bstep HB0.out HN.out)).get (by omega)
      have q0 := hc k hlt 0 _ rfl
      rw [Nat.add_zero, Nat.mul_one] at q0
      have hkI : (k : Int) < (gs.length : Int) := by omega
      have HT := hide (gsum_take gs k hlt)
      have hpl := (HA.out.rz _ (List.getElem_mem hlt)).2
      have HG2 : Hid (gs.length ≤ 1000 → gsum (gs.take k) + gs[k].ps.length ≤ 140737488355328000) := fun hl => by rw [← HT.out]; exact HGB.out (k + 1) hl
      clear hc
      generalize gs[k] = x at *
      obtain ⟨xa, xc, ps⟩ := x
      simp only at *
      go_wp2
      go_roundw
      case rel => exact ⟨k + 1, wrap64 (m + ps.length), by omega, by go_num, by first | rfl | (go_num; done), fun hl => by
        rw [HT.out, HM.out hl]
        have := HG2.out hl
        unfold wrap64
        omega, HN.out⟩
      case measure => simp [intOf]; omega
    · obtain rfl : k = gs.length := by omega
      have HM2 : Hid (gs.length ≤ 1000 → m = (gsum gs : Nat)) := fun hl => by have := HM.out hl; rwa [List.take_length] at this
      have HBW := hide (bstep HB0.out HN.out)
      have hbx := heap_below HN.out HBX.out
      have HBX1 := hide hbx
      have k1 := (cellA hbx 1).trans HF1.out
      have k5 := (cellA hbx 5).trans HF5.out
      clear HM hbx
      by_cases c1 : psz p ≤ 20000
      · have d1 : decide (((psz p : Nat) : Int) > 20000) = false := by simp; omega
        have d1' : (((psz p : Nat) : Int) > 20000) = False := by simp; omega
        have d1'' : (20000 < psz p) = False := by simp; omega
        by_cases c2 : m ≤ 1000
        · have d2 : decide (m > 1000) = false := by simp; omega
          have d2'' : (1000 < m) = False := by simp; omega
          by_cases c3 : gs.length ≤ 1000
          · have d3 : decide ((gs.length : Int) > 1000) = false := by simp; omega
            have d3'' : (1000 < gs.length) = False := by simp; omega
            obtain rfl := HM2.out c3
            obtain ⟨x1, x2, x3⟩ := psz_small c1
            have x4 : gsum gs ≤ 1000 := by omega
            obtain ⟨X, hX⟩ : ∃ X, X = gsum gs * p.es.length := ⟨_, rfl⟩
            obtain ⟨Y, hY⟩ : ∃ Y, Y = 10 + p.xs.length := ⟨_, rfl⟩
            obtain ⟨Z, hZ⟩ : ∃ Z, Z = X * Y := ⟨_, rfl⟩
            obtain ⟨x5, x6⟩ : X ≤ 20000000 ∧ Z ≤ 400200000000 := by rw [hZ, hX, hY]; exact qc_bd x4 x2 x1
            have e1 : wrap64 ((gsum gs : Int) * (p.es.length : Int)) = (X : Int) := by
              rw [← Int.natCast_mul, ← hX]; unfold wrap64; omega
            have e2 : wrap64 (10 + (p.xs.length : Int)) = (Y : Int) := by unfold wrap64; omega
            have e3 : wrap64 ((X : Int) * (Y : Int)) = (Z : Int) := by
              rw [← Int.natCast_mul, ← hZ]; unfold wrap64; omega
            have e4 : wrap64 ((X : Int) * (10 + (p.xs.length : Int))) = (Z : Int) := by
              rw [← e3, hY]; rfl
            have HXX := hide hX
            have HYY := hide hY
            have HZZ := hide hZ
            clear hX hY hZ
            by_cases c4 : Z ≤ 2000000
            · obtain ⟨d4, d4'⟩ := d4_no c4
              have hS : QcS gs p := ⟨c1, x4, c3, by rw [← HXX.out, ← HYY.out, ← HZZ.out]; exact c4⟩
              have HS := hide hS
              have HDN : Hid (∀ e ∈ p.es, e.dn = (D e).length ∧ (D e).length ≤ 20000) := fun e he => ⟨(HA.out.eb e he).2.1, by have := x3 e he; rw [(HA.out.eb e he).2.1] at this; exact this⟩
              have HXE : Hid (p.xs.length ≤ 20000 ∧ p.es.length ≤ 20000) := ⟨x1, x2⟩
              have HTG : Hid (∀ W, Below w.heap.size w W → _) := fun W hb => twinGs_any a cap gs W (HA.out.rg.below hb) (fun g hg => ⟨(HA.out.rz g hg).1.below hb, by have := gsum_mem gs g hg; omega⟩) (by omega)
              have HTP : Hid (∀ W, Below w.heap.size w W → _) := fun W hb => twinPs_any p D W HA.out.lx (HA.out.rx.below hb) (HA.out.re.below hb) (fun e he => ⟨(HDN.out e he).1, by have := (HDN.out e he).2; omega, (HA.out.eb e he).2.2.below hb⟩) (by omega)
              rw [← HPC.out] at HTP
              have HRC : Hid (∀ W, Below w.heap.size w W → _) := fun W hb => rcopies p a cap gs W (HA.out.arg HS.out hb) (by have := HS.out.wl; omega)
              rw [← HPC.out] at HRC
              have HWL : Hid ((ports gs p).length ≤ 200001) := by
                show _ ≤ _
                unfold ports; split
                · simp
                · exact HS.out.wl
              have HTC : Hid (∀ (W : World) (B B1 g1 g2 gb gc : Nat) (zs : List Gp) (z : Ps), TwPs W B p D z g1 g2 → zs.length = gs.length → W.ownsRow B1 30 1 (.slice (some ⟨gb, 0, none⟩) gs.length gc) gs.length (flat Gp.cells zs) → (∀ i (h : i < zs.length) (h' : i < gs.length), TwGp W B1 gs[i] zs[i]) → _) := fun W B B1 g1 g2 gb gc zs z k1 k2 k3 k4 => twCopies k1 k2 k3 k4 HS.out
              generalize cde (p.es.any (asks gs.length)) = cc at *
              generalize ports gs p = pts at *
              go_wp2_with (refine wpList_loadA rfl 27 _ rfl w.heap.size pcs 27 rfl aggPs (by rw [HP6.out]; exact szPs) HBX1.out ?_)
              refine (HPS.out _ HBW.out).mono ?_
              rintro e w1 ⟨rfl, hb1⟩
              have B1 := hide (bstep HBW.out hb1)
              have HBX2 := hide (heap_below hb1 HBX1.out)
              have k1 := (cellA HBX2.out 1).trans HF1.out
              have k5 := (cellA HBX2.out 5).trans HF5.out
              clear hb1 HBX1
              go_wp2_with fail
              refine (HTG.out _ B1.out).mono ?_
              rintro e w2 ⟨gb, gc, b7, zs, rfl, hzl, hO, h77, hT, hc1, hc2⟩
              clear e1 e2 e3 e4 d1 d1' d1'' d2 d2'' d3 d3'' d4 d4' x1 x2 x3 x5 x6 c1 c4 HXX HYY HZZ HTG
              have B2 := hide (bstep B1.out hT.bl)
              have HBX3 := hide (heap_below hT.bl HBX2.out)
              have GO := hide hO; have G77 := hide h77; have GT := hide hT; have GC := hide (And.intro hc1 hc2); have GZ := hide hzl
              clear hzl hO h77 hT hc1 hc2 HBX2 k1 k5
              go_wp2_with (refine wpList_loadA rfl 27 _ rfl w.heap.size pcs 27 rfl aggPs (by rw [HP6.out]; exact szPs) HBX3.out ?_)
              refine (HTP.out _ B2.out).mono ?_
              rintro e w3 ⟨z, g1, g2, rfl, hZ, hb3⟩
              have ZP := hide hZ
              have B3 := hide (bstep B2.out hb3)
              have HBX4 := hide (heap_below hb3 HBX3.out)
              have GO3 := hide (owR_below GO.out hb3)
              have GT3 := hide (GT.out.below hb3)
              have hb7l : b7 < w2.heap.size := World.block_lt_of_cell? w2 _ G77.out
              have G73 := hide ((hb3.cell (p := ⟨b7, 0, none⟩) hb7l).trans G77.out)
              have G7L : Hid (b7 < w3.heap.size) := Nat.lt_of_lt_of_le hb7l hb3.size
              have G1L : Hid (g1 < w3.heap.size) := (World.ownsRow.lt hZ.b g1 rfl).2
              have B12 : Hid (w.heap.size ≤ w2.heap.size) := B2.out.size
              obtain ⟨zcs, hzcs⟩ : ∃ zcs, zcs = z.cells := ⟨_, rfl⟩
              have ZL : Hid (z.cells.length = 6) := rfl
              have ZO : Hid (∀ u ∈ z.cells, u.oneCell' = true) := ps_one z
              rw [← hzcs] at ZL ZO ⊢
              have ZC := hide hzcs
              have HZ4 := hide (heap_alloc_new w3 (.cells #[.int .u8 0, .slice none 0 0, .int .i64 0, .bool false, .bool false, .slice none 0 0] 27))
              have HB4 := hide (below1 w3 (.cells #[.int .u8 0, .slice none 0 0, .int .i64 0, .bool false, .bool false, .slice none 0 0] 27))
              clear hzcs hZ hb3 HBX3 GO GT G77 hb7l HTP
              go_wp2_with (first
                | (refine wpList_storeA rfl 27 _ _ rfl w3.heap.size zcs _ 27 rfl rfl (by rw [ZL.out]; exact szPs) HZ4.out (by rw [ZL.out]; rfl) ZO.out ?_; intro w5 hw5; have HBZ : Hid (w5.heap[w3.heap.size]? = some (.cells zcs.toArray 27 (0, 0))) := (by show _ = _; rw [hw5]; exact got0 HZ4.out (by rw [ZL.out]; rfl)); have B35 : Hid (Below w3.heap.size w3 w5) := HB4.out.trans ((by rw [hw5]; exact fr_all _ _ _ _ : Fr (· = w3.heap.size) _ w5).below (fun b e => by omega) HB4.out.size); clear hw5)
                | (refine wpList_loadA rfl 27 _ rfl w3.heap.size zcs 27 rfl aggPs (by rw [ZL.out]; exact szPs) HBZ.out ?_))
              have ht5 := HTC.out w5 w2.heap.size w1.heap.size g1 g2 gb gc zs z (ZP.out.below B35.out) GZ.out (by have := (GT3.out.below B35.out).own; rw [GZ.out] at this; exact this) (fun i h1 h2 => (GT3.out.below B35.out).tw i h1 h2)
              rw [← ZC.out] at ht5
              refine ht5.mono ?_
              rintro e w6 ⟨ya, yc, ys, rfl, hyo, hyp, hyx, hypw, hb6⟩
              have B6 := hide (bstep (bstep B3.out B35.out) hb6)
              have B36 := hide (bstep B35.out hb6)
              have S35 : Hid (w3.heap.size ≤ w5.heap.size ∧ w.heap.size ≤ w5.heap.size) := ⟨B35.out.size, (bstep B3.out B35.out).size⟩
              have HBX6 := hide (heap_below B36.out HBX4.out)
              have HBZ6 := hide (heap_below hb6 HBZ.out)
              have YO := hide hyo; have YP := hide hyp; have YX := hide hyx; have YW := hide hypw
              have YL : Hid (ys.length ≤ 200001) := by
                have := congrArg List.length hyp
                rw [List.length_map] at this
                show _ ≤ _
                rw [this]; exact HWL.out
              clear ht5 hyo hyp hyx hypw hb6 HZ4 HB4 HTC HWL HBZ B35
              go_wp2_with (refine wpList_loadA rfl 27 _ rfl w.heap.size pcs 27 rfl aggPs (by rw [HP6.out]; exact szPs) HBX6.out ?_)
              refine (HRC.out _ B6.out).mono ?_
              rintro e w7 ⟨ra, rc, rs, rfl, hr, hrp, hrx, hb7⟩
              have B7 := hide (bstep B6.out hb7)
              have B37 := hide (bstep B36.out hb7)
              have HBX7 := hide (heap_below hb7 HBX6.out)
              have HBZ7 := hide (heap_below hb7 HBZ6.out)
              have YO7 := hide (owR_below YO.out hb7)
              have YX7 : Hid (∀ y ∈ ys, y.xs = p.xs ∧ Own8 w7 w5.heap.size (.slice y.a y.xs.length y.cap) y.xs) := fun y hy => ⟨(YX.out y hy).1, (YX.out y hy).2.below hb7⟩
              have HSM := hide (same_any ys rs (keys_eq (YP.out.trans hrp.symm) (fun y hy => (YX.out y hy).1) hrx) ya ra yc rc w7 (rdY_own YO7.out (fun y hy => (Own8.rd (YX7.out y hy).2).2)) hr (fun y hy => by rw [(YX.out y hy).1]; have := HXE.out.1; omega) (by have := YL.out; omega))
              clear hr hrp hrx hb7 HBX6 HBZ6 YO YX B36 B6 HRC
              generalize rs.length = rn at *
              go_wp2_with fail
              refine HSM.out.mono ?_
              rintro e w8 ⟨rfl, hb8⟩
              have B8 := hide (bstep B7.out hb8)
              have B38 := hide (bstep B37.out hb8)
              have HBX8 := hide (heap_below hb8 HBX7.out)
              have HBZ8 := hide (heap_below hb8 HBZ7.out)
              have YO8 := hide (owR_below YO7.out hb8)
              have YX8 : Hid (∀ y ∈ ys, y.xs = p.xs ∧ Own8 w8 w5.heap.size (.slice y.a y.xs.length y.cap) y.xs) := fun y hy => ⟨(YX7.out y hy).1, (YX7.out y hy).2.below hb8⟩
              have HLG := hide (leftGs_yes w1.heap.size gb gc b7 a cap gs zs w8 (by have := c3; omega) (HA.out.rg.below B8.out) (fun g hg => ⟨(HA.out.rz g hg).1.below B8.out, by have := gsum_mem gs g hg; omega⟩) GZ.out (owR_below GO3.out B38.out) ((B38.out.cell (p := ⟨b7, 0, none⟩) G7L.out).trans G73.out) (Nat.lt_of_lt_of_le G7L.out B38.out.size) (fun i h1 h2 => (GT3.out.below B38.out).tw i h1 h2) GC.out.1 GC.out.2)
              clear hb8 HBX7 HBZ7 YO7 YX7 HSM B7 B37
              go_wp2_with fail
              refine HLG.out.mono ?_
              rintro e w9 ⟨rfl, hb9⟩
              have B9 := hide (bstep B8.out hb9)
              have B39 := hide (bstep B38.out hb9)
              have HBX9 := hide (heap_below hb9 HBX8.out)
              have HBZ9 := hide (heap_below hb9 HBZ8.out)
              have HLP := hide (leftPs_yes w2.heap.size g1 g2 p z D w9 HA.out.lx (HA.out.rx.below B9.out) (HA.out.re.below B9.out) (fun e he => ⟨(HDN.out e he).1, by have := (HDN.out e he).2; omega, (HA.out.eb e he).2.2.below B9.out⟩) (by have := HXE.out.2; omega) (ZP.out.below B39.out))
              have z0 := (cellA HBZ9.out 0).trans (show zcs.toArray[0]? = some (.int .u8 z.fin) from by rw [ZC.out]; rfl)
              have p0 := (cellA HBX9.out 0).trans (show pcs.toArray[0]? = some (.int .u8 p.fin) from by rw [HPC.out]; rfl)
              have z1 := (cellA HBZ9.out 1).trans (show zcs.toArray[1]? = some (.slice z.pa z.xs.length z.pc) from by rw [ZC.out]; rfl)
              have p1 := (cellA HBX9.out 1).trans (show pcs.toArray[1]? = some (.slice p.pa p.xs.length p.pc) from by rw [HPC.out]; rfl)
              have z2 := (cellA HBZ9.out 2).trans (show zcs.toArray[2]? = some (.int .i64 z.port) from by rw [ZC.out]; rfl)
              have p2 := (cellA HBX9.out 2).trans (show pcs.toArray[2]? = some (.int .i64 p.port) from by rw [HPC.out]; rfl)
              have z3 := (cellA HBZ9.out 3).trans (show zcs.toArray[3]? = some (.bool z.again) from by rw [ZC.out]; rfl)
              have p3 := (cellA HBX9.out 3).trans (show pcs.toArray[3]? = some (.bool p.again) from by rw [HPC.out]; rfl)
              have z4 := (cellA HBZ9.out 4).trans (show zcs.toArray[4]? = some (.bool z.round) from by rw [ZC.out]; rfl)
              have p4 := (cellA HBX9.out 4).trans (show pcs.toArray[4]? = some (.bool p.round) from by rw [HPC.out]; rfl)
              have z5 := (cellA HBZ9.out 5).trans (show zcs.toArray[5]? = some (.slice z.ea z.es.length z.ec) from by rw [ZC.out]; rfl)
              have p5 := (cellA HBX9.out 5).trans (show pcs.toArray[5]? = some (.slice p.ea p.es.length p.ec) from by rw [HPC.out]; rfl)
              simp only [Ps.cells] at HLP
              have YO9 := hide (owR_below YO8.out hb9)
              have YX9 : Hid (∀ y ∈ ys, y.xs = p.xs ∧ Own8 w9 w5.heap.size (.slice y.a y.xs.length y.cap) y.xs) := fun y hy => ⟨(YX8.out y hy).1, (YX8.out y hy).2.below hb9⟩
              clear hb9 HBX8 HBZ8 YO8 YX8 HLG B8 B38 GO3 GT3 G73 G7L GC GZ
              go_wp2_with fail
              refine HLP.out.mono ?_
              rintro e w10 ⟨rfl, hb10⟩
              have B10 := hide (bstep B9.out hb10)
              clear z0 z1 z2 z3 z4 z5 p0 p1 p2 p3 p4 p5
              have YO10 := hide (owR_below YO9.out hb10)
              have ZP10 := hide ((ZP.out.below B39.out).below hb10)
              have HBZ11 := hide (heap_below (below1 w10 (.cells bk0 76)) (heap_below hb10 HBZ9.out))
              have SQ := BoG.beginQ (ys := ys) B10.out ZP10.out B12.out HXE.out.1 HXE.out.2 HDN.out (show g1 < w5.heap.size by have := G1L.out; have := S35.out; omega) S35.out.2 (fun y hy => ⟨(YX9.out y hy).1, (YX9.out y hy).2.below hb10⟩) YW.out 76
              have ZEL : Hid (z.es.length ≤ 20000) := by show _ ≤ _; rw [ZP10.out.l]; exact HXE.out.2
              have hrE : RdG Ef.cells 10 w10 z.ea z.es := by
                have := ZP10.out.o
                rw [flat_append] at this
                have h2 := rdG_own ef_len this
                rw [show z.ea = some ⟨g2, 0, none⟩ from by rw [ZP10.out.e]]; exact h2
              have C1 := hide (SQ.pass z hrE (by have := ZEL.out; omega))
              rw [← ZC.out] at C1
              simp only [bk0] at C1 HBZ11
              clear hb10 HBX9 HBZ9 YO9 YX9 HLP B9 B39 ZP ZP10 SQ hrE HDN YW YP S35 G1L B12
              go_wp2_with (refine wpList_loadA rfl 27 _ rfl w3.heap.size zcs 27 rfl aggPs (by rw [ZL.out]; exact szPs) HBZ11.out ?_)
              refine C1.out.mono ?_
              rintro e w12 ⟨rfl, v2, hs2, h2⟩
              have HS0 : Hid (∃ v hs, BoG KX lvX w w10 w12 (0 + 1 + z.es.length + 1 + 0) v hs ((ys.drop 0).map toldC)) := ⟨v2, hs2, by rw [List.drop_zero, Nat.add_zero]; exact h2⟩
              have HK : Hid (∀ W n u us, n < 800000 → u.1 = 2 → (∃ v hs, BoG KX lvX w w10 W n v hs (u :: us)) → Calls Tryz.prog 14 #[.pointer (some ⟨w10.heap.size, 0, none⟩), u.2.1] W fun e W' => e = .returned (.tuple #[]) ∧ ∃ v' hs', BoG KX lvX w w10 W' (n + 1) v' hs' us) := fun W n u us hn hu ⟨v, hs, h⟩ => by
                refine (h.tell kX_ok (by rw [hu]; exact keepXb) (by omega)).mono ?_
                rintro e W' ⟨rfl, v', hs', h', -, -⟩
                exact ⟨rfl, v', hs', h'⟩
              have HFG : Hid (∀ W n us, (∃ v hs, BoG KX lvX w w10 W n v hs us) → Below w10.heap.size w10 W) := fun W n us ⟨v, hs, h⟩ => h.fg
              have HAP : Hid (∀ W n, (∃ v hs, BoG KX lvX w w10 W n v hs []) → Calls Tryz.prog 15 #[.pointer (some ⟨w10.heap.size, 0, none⟩)] W fun e W' => e = .returned (.bool true) ∧ Below w.heap.size w W') := fun W n ⟨v, hs, h⟩ => h.apart kX_ok bookX
              clear h2 C1 HBZ11
              generalize hBB : (fun W n us => ∃ v hs, BoG KX lvX w w10 W n v hs us) = BB at *
              have eB : ∀ W n us, (∃ v hs, BoG KX lvX w w10 W n v hs us) = BB W n us := fun W n us => by rw [← hBB]
              simp only [eB] at HS0 HK HFG HAP
              clear hBB eB
              generalize hN0 : 0 + 1 + z.es.length + 1 = N0 at *
              have HN0 : Hid (N0 ≤ 20002) := by show _ ≤ _; have := ZEL.out; omega
              clear hN0
              go_wp2
              go_loopw [14] (fun i wr => ∃ k : Nat, k ≤ ys.length ∧ i = .int .i64 k ∧ BB wr (N0 + k) ((ys.drop k).map toldC)) (fun i _ => ys.length - (intOf i).toNat)
              case atStart => exact ⟨0, by omega, rfl, HS0.out⟩
              case round =>
                obtain ⟨k, hk, rfl, hb⟩ := hrel
                have HB := hide hb
                clear hb HS0
                by_cases hlt : k < ys.length
                · have hkI : (k : Int) < (ys.length : Int) := by omega
                  obtain ⟨q, rfl, hq, hc⟩ := rdc_own YO10.out k hlt
                  have hcc := ((HFG.out _ _ _ HB.out).cell (p := ⟨q, k * 2 + 1, none⟩) hq).trans hc
                  have HD : Hid ((ys.drop k).map toldC = toldC ys[k] :: (ys.drop (k + 1)).map toldC) := by show _ = _; rw [List.drop_eq_getElem_cons hlt, List.map_cons]
                  rw [HD.out] at HB
                  have HT := hide (HK.out _ _ _ _ (by have := HN0.out; have := YL.out; omega) rfl HB.out)
                  have hkb : k < 140737488355328 := by have := YL.out; omega
                  simp only [toldC] at HT
                  clear hc hq HD HB HK HFG HAP YO10
                  generalize ys[k] = x at *
                  obtain ⟨xp, xa, xc, xs⟩ := x
                  simp only at hcc HT
                  go_wp2_with (go_at_call 14; refine HT.out.mono ?_; rintro e w1 ⟨rfl, h1⟩; have H1 := hide h1; clear h1)
                  go_roundw
                  case rel => exact ⟨k + 1, by omega, by go_num, H1.out⟩
                  case measure => simp [intOf]; omega
                · obtain rfl : k = ys.length := by omega
                  have HX := hide (HAP.out _ _ (by have := HB.out; rw [List.drop_length] at this; exact this))
                  clear HB HK HFG HAP YO10
                  go_wp2_with fail
                  refine HX.out.mono ?_
                  rintro e w14 ⟨rfl, hb⟩
                  have B14 := hide hb
                  clear hb HX
                  go_wp2_with fail
                  refine (HLV.out _).mono ?_
                  rintro e w15 ⟨rfl, hb⟩
                  have B15 := hide (bstep B14.out hb)
                  clear hb
                  go_wp2
                  go_ret
                  exact ⟨rfl, B15.out⟩
            · obtain ⟨d4, d4'⟩ := d4_yes c4
              go_wp2_with (first
                | (refine wpList_loadA rfl 27 _ rfl w.heap.size pcs 27 rfl aggPs (by rw [HP6.out]; exact szPs) HBX1.out ?_)
                | (go_at_call 4; refine (HPS.out _ HBW.out).mono ?_; rintro e w1 ⟨rfl, hb1⟩; have B1 := hide (bstep HBW.out hb1); have hbx1 := heap_below hb1 HBX1.out; have k1 := (cellA hbx1 1).trans HF1.out; have k5 := (cellA hbx1 5).trans HF5.out; clear hb1 hbx1)
                | (go_at_call 5; refine (HLV.out _).mono ?_; rintro e w2 ⟨rfl, hb2⟩; have B2 := hide (bstep B1.out hb2); clear hb2))
              go_ret
              exact ⟨rfl, B2.out⟩
          · have d3 : decide ((gs.length : Int) > 1000) = true := by simp; omega
            have d3'' : (1000 < gs.length) = True := by simp; omega
            go_wp2_with (first
              | (refine wpList_loadA rfl 27 _ rfl w.heap.size pcs 27 rfl aggPs (by rw [HP6.out]; exact szPs) HBX1.out ?_)
              | (go_at_call 4; refine (HPS.out _ HBW.out).mono ?_; rintro e w1 ⟨rfl, hb1⟩; have B1 := hide (bstep HBW.out hb1); have hbx1 := heap_below hb1 HBX1.out; have k1 := (cellA hbx1 1).trans HF1.out; have k5 := (cellA hbx1 5).trans HF5.out; clear hb1 hbx1)
              | (go_at_call 5; refine (HLV.out _).mono ?_; rintro e w2 ⟨rfl, hb2⟩; have B2 := hide (bstep B1.out hb2); clear hb2))
            go_ret
            exact ⟨rfl, B2.out⟩
        · have d2 : decide (m > 1000) = true := by simp; omega
          have d2'' : (1000 < m) = True := by simp; omega
          go_wp2_with (first
            | (refine wpList_loadA rfl 27 _ rfl w.heap.size pcs 27 rfl aggPs (by rw [HP6.out]; exact szPs) HBX1.out ?_)
            | (go_at_call 4; refine (HPS.out _ HBW.out).mono ?_; rintro e w1 ⟨rfl, hb1⟩; have B1 := hide (bstep HBW.out hb1); have hbx1 := heap_below hb1 HBX1.out; have k1 := (cellA hbx1 1).trans HF1.out; have k5 := (cellA hbx1 5).trans HF5.out; clear hb1 hbx1)
            | (go_at_call 5; refine (HLV.out _).mono ?_; rintro e w2 ⟨rfl, hb2⟩; have B2 := hide (bstep B1.out hb2); clear hb2))
          go_ret
          exact ⟨rfl, B2.out⟩
      · have d1 : decide (((psz p : Nat) : Int) > 20000) = true := by simp; omega
        have d1'' : (20000 < psz p) = True := by simp; omega
        go_wp2_with (first
          | (refine wpList_loadA rfl 27 _ rfl w.heap.size pcs 27 rfl aggPs (by rw [HP6.out]; exact szPs) HBX1.out ?_)
          | (go_at_call 4; refine (HPS.out _ HBW.out).mono ?_; rintro e w1 ⟨rfl, hb1⟩; have B1 := hide (bstep HBW.out hb1); clear hb1)
          | (go_at_call 5; refine (HLV.out _).mono ?_; rintro e w2 ⟨rfl, hb2⟩; have B2 := hide (bstep B1.out hb2); clear hb2))
        go_ret
        exact ⟨rfl, B2.out⟩
end Go.Proofs.YtclhmggnkhnnlaaGreatDoor
