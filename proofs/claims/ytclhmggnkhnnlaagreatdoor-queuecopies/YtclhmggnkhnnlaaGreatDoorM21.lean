/- Pieces of the proof: QwB. -/
import Derived.Test.YtclhmggnkhnnlaaGreatDoorM20
/- pointsmanref17.Copies, walked. -/
namespace Go.Proofs.YtclhmggnkhnnlaaGreatDoor
open Go.RowKit

/- What the document's Copies holds ahead of each effect. -/
structure RcA (w1 : World) (p : Ps) (gs : List Gp) (k : Nat) (v : Value) (W : World) : Prop where
  r : RcI w1 p.xs ((p.es.take k).flatMap (pf gs)) v W
  na : ∀ e ∈ p.es.take k, asks gs.length e = false
theorem pf_no {gs : List Gp} {e : Ef} (h : isCl e = false) : pf gs e = [] := by unfold pf; rw [h]; rfl
theorem RcA.skip {w1 W W' : World} {p : Ps} {gs : List Gp} {k : Nat} {v : Value} (h : RcA w1 p gs k v W) (hk : k < p.es.length) (hn : isCl p.es[k] = false) (hb : Below W.heap.size W W') : RcA w1 p gs (k + 1) v W' := by
  have e : p.es.take (k + 1) = p.es.take k ++ [p.es[k]] := List.take_succ_eq_append_getElem hk
  refine ⟨?_, ?_⟩
  · rw [e, List.flatMap_append, List.flatMap_singleton, pf_no hn, List.append_nil]; exact h.r.next hb
  · rw [e]
    intro x hx
    rcases List.mem_append.1 hx with hx | hx
    · exact h.na x hx
    · obtain rfl := List.mem_singleton.1 hx
      unfold asks; rw [hn]; rfl
def cde (b : Bool) : Int := if b then 1 else 0
set_option maxRecDepth 100000 in
set_option maxHeartbeats 4000000 in
theorem rcopies_any (p : Ps) (ga : Option Addr) (gc : Nat) (gs : List Gp) (w : World) (ha : Arg w p ga gs) (hl : (wl gs p).length ≤ 900000) :
    Calls Tryz.prog 9 #[.slice ga gs.length gc, .agg p.cells.toArray] w fun e w' => ∃ v, e = .returned (.tuple #[v, .int .i64 (cde (p.es.any (asks gs.length)))]) ∧ (p.es.any (asks gs.length) = true → v = .slice none 0 0) ∧ (p.es.any (asks gs.length) = false → RcI w p.xs (wl gs p) v w') ∧ Below w.heap.size w w' := by
  generalize hW1 : w.alloc (.cells p.cells.toArray 27) = w1
  have hb1 : Below w.heap.size w w1 := by rw [← hW1]; exact below1 _ _
  have hbox : w1.heap[w.heap.size]? = some (.cells p.cells.toArray 27 (0, 0)) := by rw [← hW1]; exact heap_alloc_new w _
  have HB1 := hide hb1
  have HBOX := hide hbox
  have HA := hide ha
  have HW1 := hide hW1
  have HL := hide hl
  have hle := ha.le
  have hlg := ha.lg
  clear hb1 hbox ha hl hW1
  generalize hB : p.es.any (asks gs.length) = bb
  have HBB := hide hB
  clear hB
  generalize hcs : p.cells.toArray = cs at *
  have HCS := hide hcs
  clear hcs
  go_enter Tryz.func9, Tryz.ntmps9
  go_wp2
  rw [HW1.out]
  have HR0 : Hid (RcA w1 p gs 0 (.slice none 0 0) w1) := ⟨⟨Below.refl _ _, [], World.ownsRow_nil _ _ _ _, rfl, fun y hy => by simp at hy⟩, fun e he => by simp at he⟩
  go_loopg [6, 7] p.es.length (fun gk v i wr => ∃ (k : Nat), k + gk = p.es.length ∧ i = .int .i64 k ∧ RcA w1 p gs k v wr)
  case atStart => exact ⟨0, by omega, rfl, HR0.out⟩
  case round =>
    obtain ⟨k, hk, rfl, hrc⟩ := hrel
    have HK := hide hk
    obtain ⟨go, hgo⟩ : ∃ go, go = gk := ⟨_, rfl⟩
    subst hgo
    have HRC := hide hrc
    have hblk := heap_below hrc.r.bl HBOX.out
    have HCSL : Hid (cs = #[.int .u8 p.fin, .slice p.pa p.xs.length p.pc, .int .i64 p.port, .bool p.again, .bool p.round, .slice p.ea p.es.length p.ec]) := HCS.out.symm
    have HBK := hide hblk
    have k5 : wr.cell? ⟨w.heap.size, 5, none⟩ = some (.slice p.ea p.es.length p.ec) := by rw [cellA hblk 5, HCSL.out]; rfl
    clear hrc hk hblk HR0
    by_cases hlt : k < p.es.length
    · have hkI : (k : Int) < (p.es.length : Int) := by omega
      have dk : decide (k < p.es.length) = true := by simp; omega
      have hre := HA.out.re.below (bstep HB1.out HRC.out.r.bl)
      obtain ⟨ep, eo, hea, _, hec⟩ := hre.get (by omega)
      have hec := hec k hlt
      have HPF := hide (show p.es.take (k + 1) = p.es.take k ++ [p.es[k]] from List.take_succ_eq_append_getElem hlt)
      have HMEM : Hid (p.es[k] ∈ p.es) := List.getElem_mem hlt
      have HSK := hide (fun W' (hn : isCl p.es[k] = false) (hb : Below wr.heap.size wr W') => HRC.out.skip hlt hn hb)
      have HLT := hide (show ((p.es.take k).flatMap (pf gs)).length + (pf gs p.es[k]).length ≤ (wl gs p).length by
        by_cases h0 : (pf gs p.es[k]).length = 0
        · rw [h0]
          have e : p.es = p.es.take k ++ p.es.drop k := (List.take_append_drop _ _).symm
          have : (p.es.flatMap (pf gs)).length = ((p.es.take k).flatMap (pf gs)).length + ((p.es.drop k).flatMap (pf gs)).length := by conv => lhs; rw [e, List.flatMap_append, List.length_append]
          unfold wl; rw [List.length_append]; omega
        · have := wl_lt gs p k hlt ((pf gs p.es[k]).length - 1) (by omega)
          omega)
      rw [hea] at k5
      generalize p.es[k] = e at *
      obtain ⟨ekind, earray, ecell, evw, evh, evl, eda, edn, edc, egroup, etable, eentry⟩ := e
      have c0 := hec 0 _ rfl
      have c1 := hec 1 _ rfl
      have c2 := hec 2 _ rfl
      have c3 := hec 3 _ rfl
      have c4 := hec 4 _ rfl
      have c5 := hec 5 _ rfl
      have c6 := hec 6 _ rfl
      have c7 := hec 7 _ rfl
      have c8 := hec 8 _ rfl
      have c9 := hec 9 _ rfl
      simp only [Nat.add_zero] at c0 c1 c2 c3 c4 c5 c6 c7 c8 c9
      clear hec hre
      by_cases hkind : ekind = 7
      · subst hkind
        have f1 : ((7 : Int) == 7) = true := rfl
        by_cases hbad : egroup < 0 ∨ (gs.length : Int) ≤ egroup
        · have hone : asks gs.length (⟨7, earray, ecell, evw, evh, evl, eda, edn, edc, egroup, etable, eentry⟩ : Ef) = true := by
            unfold asks isCl
            rcases hbad with h | h <;> simp [h]
          have hbb : bb = true := by rw [← HBB.out]; exact List.any_eq_true.2 ⟨_, HMEM.out, hone⟩
          subst hbb
          have f2 : (decide (egroup < 0) || decide ((gs.length : Int) ≤ egroup)) = true := by rcases hbad with h | h <;> simp [h]
          have f3 : (egroup < 0 ∨ (gs.length : Int) ≤ egroup) = True := by simpa using hbad
          have HBL := hide (bstep (bstep HB1.out HRC.out.r.bl) (below1 wr (.cells #[.int .u8 7, .string earray, .int .i64 ecell, .int .i64 evw, .int .u64 evh, .int .u64 evl, .slice eda edn edc, .int .i64 egroup, .string etable, .int .i64 eentry] 95)))
          clear hbad hone
          go_wp2
          all_goals
            go_ret2
            exact ⟨_, rfl, rfl, HBL.out⟩
        · obtain ⟨gi, hgi⟩ := Int.eq_ofNat_of_zero_le (show 0 ≤ egroup by omega)
          subst hgi
          have hgl : gi < gs.length := by omega
          have hglI : (gi : Int) < (gs.length : Int) := by omega
          have f2 : decide (((gi : Nat) : Int) < 0) = false := by simp
          have f3 : decide ((gs.length : Int) ≤ (gi : Int)) = false := by simp; omega
          have f4 : (gs.length ≤ gi) = False := by simp; omega
          clear hbad
          have hnask : asks gs.length (⟨7, earray, ecell, evw, evh, evl, eda, edn, edc, (gi : Int), etable, eentry⟩ : Ef) = false := by
            unfold asks isCl; simp; omega
          have hpf : pf gs (⟨7, earray, ecell, evw, evh, evl, eda, edn, edc, (gi : Int), etable, eentry⟩ : Ef) = gs[gi].ps := by
            unfold pf isCl; simp [hgl]
          rw [hpf] at HLT
          have HEX : Hid (∀ v' W', RcI w1 p.xs ((p.es.take k).flatMap (pf gs) ++ gs[gi].ps) v' W' → RcA w1 p gs (k + 1) v' W') := fun v' W' h => by
            refine ⟨?_, ?_⟩
            · rw [HPF.out, List.flatMap_append, List.flatMap_singleton, hpf]; exact h
            · rw [HPF.out]
              intro x hx
              rcases List.mem_append.1 hx with hx | hx
              · exact HRC.out.na x hx
              · obtain rfl := List.mem_singleton.1 hx; exact hnask
          obtain ⟨gp, go2, hga, hgp, hgc⟩ := HA.out.rgs.get (by omega)
          have hg0 := hgc gi hgl 0 _ rfl
          obtain ⟨hz, hzl⟩ := HA.out.rz _ (List.getElem_mem hgl)
          have HPRE := hide (show ((p.es.take k).flatMap (pf gs)).length + gs[gi].ps.length ≤ 900000 by have := HLT.out; have := HL.out; omega)
          clear hgc hpf hnask HMEM HSK HPF HLT
          generalize gs[gi] = g at *
          obtain ⟨gga, ggc, gps⟩ := g
          simp only at hg0 hz hzl HPRE HEX
          rw [Nat.add_zero, Nat.mul_one] at hg0
          have HR0 := hide HRC.out.r
          generalize (p.es.take k).flatMap (pf gs) = pre at *
          have hb8 := below1 wr (.cells #[.int .u8 7, .string earray, .int .i64 ecell, .int .i64 evw, .int .u64 evh, .int .u64 evl, .slice eda edn edc, .int .i64 (gi : Int), .string etable, .int .i64 eentry] 95)
          have hx8 := heap_alloc_new wr (.cells #[.int .u8 7, .string earray, .int .i64 ecell, .int .i64 evw, .int .u64 evh, .int .u64 evl, .slice eda edn edc, .int .i64 (gi : Int), .string etable, .int .i64 eentry] 95)
          have HRI := hide (HR0.out.next hb8)
          have HX8 := hide hx8
          generalize hw2 : wr.alloc (.cells #[.int .u8 7, .string earray, .int .i64 ecell, .int .i64 evw, .int .u64 evh, .int .u64 evl, .slice eda edn edc, .int .i64 (gi : Int), .string etable, .int .i64 eentry] 95) = W2 at *
          have HW2 := hide hw2
          have HZ := hide hz
          have HG0 := hide hg0
          have HGP := hide hgp
          clear hb8 hx8 hw2 hz hg0 hgp HRC HR0
          subst hga
          go_wp2
          rw [HW2.out]
          clear HW2 HBK c0 c1 c2 c3 c4 c5 c6 c7 c8 c9 k5
          generalize wr.heap.size = be at *
          go_loopg [6, 9] gps.length (fun gk v j wi => ∃ (q : Nat), q + gk = gps.length ∧ j = .int .i64 q ∧ RcI w1 p.xs (pre ++ gps.take q) v wi ∧ wi.heap[be]? = some (.cells #[.int .u8 7, .string earray, .int .i64 ecell, .int .i64 evw, .int .u64 evh, .int .u64 evl, .slice eda edn edc, .int .i64 (gi : Int), .string etable, .int .i64 eentry] 95 (0, 0)))
          case atStart => exact ⟨0, by omega, rfl, by rw [List.take_zero, List.append_nil]; exact HRI.out, HX8.out⟩
          case round =>
            obtain ⟨q, hq, rfl, hri, hx8⟩ := hrel
            have HQ := hide hq
            have RI := hide hri
            have X8 := hide hx8
            have hbw := bstep HB1.out RI.out.bl
            have e7 : wr.cell? ⟨be, 7, none⟩ = some (.int .i64 (gi : Int)) := (cellA hx8 7)
            have eg : wr.cell? ⟨gp, go2 + gi, none⟩ = some (.slice gga gps.length ggc) := (hbw.cell (p := ⟨gp, go2 + gi, none⟩) HGP.out).trans HG0.out
            have HZR := hide (HZ.out.below hbw)
            have hblk := heap_below RI.out.bl HBOX.out
            have k1 : wr.cell? ⟨w.heap.size, 1, none⟩ = some (.slice p.pa p.xs.length p.pc) := by rw [cellA hblk 1, HCSL.out]; rfl
            have HXR := hide (HA.out.rx.below hbw)
            clear hri hx8 hq hbw hblk
            by_cases hqt : q < gps.length
            · have hqI : (q : Int) < (gps.length : Int) := by omega
              have dq : decide (q < gps.length) = true := by simp; omega
              obtain ⟨zp, zo, rfl, hzp, hzc⟩ := HZR.out.some (by omega)
              have HZP := hide hzp
              have HGW : Hid (gp < wr.heap.size) := Nat.lt_of_lt_of_le HGP.out (bstep HB1.out RI.out.bl).size
              clear hzp
              have ez := hzc q hqt
              have HTK := hide (show gps.take (q + 1) = gps.take q ++ [gps[q]] from List.take_succ_eq_append_getElem hqt)
              obtain ⟨ys, hy1, hy2, hy3⟩ := RI.out.ow
              have HY1 := hide hy1
              have HY2 := hide hy2
              have HY3 := hide hy3
              have HYL : Hid (ys.length + 1 ≤ 1000000) := by
                have h1 := congrArg List.length hy2
                rw [List.length_map, List.length_append, List.length_take] at h1
                have h2 := HPRE.out
                show _ ≤ _
                omega
              clear hzc hy1 hy2 hy3 HZR
              generalize gps[q] = port at *
              go_wp2
              have HSR : Hid (∀ (w6 : World) (a6 : Option Addr) (c6 : Nat), SrcR (w6.alloc (.cells #[.int .i64 port, .slice a6 p.xs.length c6] 106)) (.slice (some ⟨w6.heap.size, 0, none⟩) 1 1) 1 (flat Cy.cells [⟨port, a6, c6, p.xs⟩])) := fun w6 a6 c6 => .inr ⟨_, _, rfl, fun j u hu => by
                have hh := heap_alloc_new w6 (.cells #[.int .i64 port, .slice a6 p.xs.length c6] 106)
                rw [Addr.add_mid, Nat.zero_add, cellA hh]
                have e : flat Cy.cells [⟨port, a6, c6, p.xs⟩] = [.int .i64 port, .slice a6 p.xs.length c6] := rfl
                rw [e] at hu
                rw [← hu]; simp⟩
              have HPUT := hide (fun (W7 w8 : World) (v' : Value) (c : Cy) => RcI.put (W := wr) (W7 := W7) (w8 := w8) (v' := v') (c := c) RI.out.bl HY1.out HY2.out HY3.out)
              have HB0 : Hid (w1.heap.size ≤ wr.heap.size) := RI.out.bl.size
              go_region_law (first
                | (refine step_app0 rfl _ _ rfl rfl p.pa p.pc _ p.xs rfl rfl (by first | exact HXR.out | exact HXR.out.below (Below.refl _ _).drew | exact HXR.out.below (Below.refl _ _).drew.drew) HA.out.nx HA.out.lx ?_; intro a6 c6 w6 O6 B6; have O6h := hide O6; have B6h : Hid (Below wr.heap.size wr w6) := (by first | exact B6 | exact (Below.refl _ wr).drew.trans B6 | exact (Below.refl _ wr).drew.drew.trans B6); have ez6 := (B6h.out.cell (p := ⟨zp, zo + q, none⟩) HZP.out).trans ez; have e76 := (B6h.out.cell (p := ⟨be, 7, none⟩) (lt_heap X8.out)).trans e7; have eg6 := (B6h.out.cell (p := ⟨gp, go2 + gi, none⟩) HGW.out).trans eg; clear O6 B6)
                | (refine step_appR rfl _ _ rfl w1.heap.size _ ys rfl (owR_below HY1.out (B6h.out.alloc B6h.out.size _)) _ [⟨port, a6, c6, p.xs⟩] rfl (HSR.out w6 a6 c6) HYL.out (by have := HB0.out; have := B6h.out.size; simp; omega) ?_; intro v8 w8 O8 G8 K8; have P8 := hide (HPUT.out _ _ _ ⟨port, a6, c6, p.xs⟩ (B6h.out.alloc B6h.out.size _) rfl (O6h.out.alloc _) O8 G8); clear O8 G8 K8))
              all_goals
                go_wp2
                go_roundg (gk - 1)
                case measure => have := HQ.out; omega
                case rel => exact ⟨q + 1, by have := HQ.out; omega, by go_num, by rw [HTK.out, ← List.append_assoc]; exact P8.out.1, P8.out.2 _ _ _ _ X8.out (by decide)⟩
            · obtain rfl : q = gps.length := by have := HQ.out; omega
              have dq : decide (gps.length < gps.length) = false := by simp
              have HE := hide (HEX.out _ _ (by have := RI.out; rw [List.take_length] at this; exact this))
              clear HZR HXR
              go_wp2
              go_roundg (go - 1)
              case measure => have := HK.out; omega
              case rel => exact ⟨k + 1, by have := HK.out; omega, by go_num, HE.out⟩
      · have f1 : (ekind == 7) = false := by simp [hkind]
        have HN : Hid (isCl (⟨ekind, earray, ecell, evw, evh, evl, eda, edn, edc, egroup, etable, eentry⟩ : Ef) = false) := f1
        have HS2 := hide (HSK.out _ HN.out (below1 wr (.cells #[.int .u8 ekind, .string earray, .int .i64 ecell, .int .i64 evw, .int .u64 evh, .int .u64 evl, .slice eda edn edc, .int .i64 egroup, .string etable, .int .i64 eentry] 95)))
        go_wp2
        go_roundg (go - 1)
        case measure => have := HK.out; omega
        case rel => exact ⟨k + 1, by have := HK.out; omega, by go_num, HS2.out⟩
    · obtain rfl : k = p.es.length := by have := HK.out; omega
      have dk : decide (p.es.length < p.es.length) = false := by simp
      have hna := HRC.out.na
      rw [List.take_length] at hna
      have hbb : bb = false := by
        rw [← HBB.out, List.any_eq_false]
        intro x hx
        rw [hna x hx]; decide
      subst hbb
      have hr := HRC.out.r
      rw [List.take_length] at hr
      have RI := hide hr
      have hblk := HBK.out
      have k0 : wr.cell? ⟨w.heap.size, 0, none⟩ = some (.int .u8 p.fin) := by rw [cellA hblk 0, HCSL.out]; rfl
      have k1 : wr.cell? ⟨w.heap.size, 1, none⟩ = some (.slice p.pa p.xs.length p.pc) := by rw [cellA hblk 1, HCSL.out]; rfl
      have k2 : wr.cell? ⟨w.heap.size, 2, none⟩ = some (.int .i64 p.port) := by rw [cellA hblk 2, HCSL.out]; rfl
      have k3 : wr.cell? ⟨w.heap.size, 3, none⟩ = some (.bool p.again) := by rw [cellA hblk 3, HCSL.out]; rfl
      have k4 : wr.cell? ⟨w.heap.size, 4, none⟩ = some (.bool p.round) := by rw [cellA hblk 4, HCSL.out]; rfl
      have HXR := hide (HA.out.rx.below (bstep HB1.out hr.bl))
      have HBW := hide (lt_heap hblk)
      have HLOW : Hid (∀ ps v' W', RcI w1 p.xs ps v' W' → RcI w p.xs ps v' W') := fun ps v' W' h => by
        obtain ⟨ys, h1, h2, h3⟩ := h.ow
        exact ⟨bstep HB1.out h.bl, ys, owR_lower h1 HB1.out.size, h2, fun y hy => ⟨(h3 y hy).1, Own8.lower (h3 y hy).2 HB1.out.size⟩⟩
      have HNO : Hid (outB p = false → RcI w p.xs (wl gs p) u6 wr) := fun ho => by
        unfold wl; rw [ho]; simp only [Bool.false_eq_true, if_false, List.append_nil]; exact HLOW.out _ _ _ hr
      have HWL : Hid (outB p = true → wl gs p = p.es.flatMap (pf gs) ++ [p.port]) := fun ho => by unfold wl; rw [ho]; rfl
      clear hna hr hblk HRC HBK HBOX HCS
      by_cases hf : p.fin = 1
      · rw [hf] at k0
        have f1 : ((1 : Int) == 1) = true := rfl
        cases hag : p.again with
        | true =>
          rw [hag] at k3
          have HN2 := hide (HNO.out (by unfold outB; rw [hag]; simp))
          go_wp2
          all_goals
            go_ret2
            exact ⟨_, rfl, HN2.out, HN2.out.bl⟩
        | false =>
          rw [hag] at k3
          cases hro : p.round with
          | true =>
            rw [hro] at k4
            have HN2 := hide (HNO.out (by unfold outB; rw [hro]; simp))
            go_wp2
            all_goals
              go_ret2
              exact ⟨_, rfl, HN2.out, HN2.out.bl⟩
          | false =>
            rw [hro] at k4
            have HW2 := hide (HWL.out (by unfold outB; rw [hf, hag, hro]; rfl))
            obtain ⟨ys, hy1, hy2, hy3⟩ := RI.out.ow
            have HY1 := hide hy1
            have HY2 := hide hy2
            have HY3 := hide hy3
            have HYL : Hid (ys.length + 1 ≤ 1000000) := by
              have h1 := congrArg List.length hy2
              rw [List.length_map] at h1
              have h2 := HL.out
              rw [HW2.out, List.length_append, List.length_singleton] at h2
              show _ ≤ _
              omega
            have HSR : Hid (∀ (w6 : World) (a6 : Option Addr) (c6 : Nat), SrcR (w6.alloc (.cells #[.int .i64 p.port, .slice a6 p.xs.length c6] 106)) (.slice (some ⟨w6.heap.size, 0, none⟩) 1 1) 1 (flat Cy.cells [⟨p.port, a6, c6, p.xs⟩])) := fun w6 a6 c6 => .inr ⟨_, _, rfl, fun j u hu => by
              have hh := heap_alloc_new w6 (.cells #[.int .i64 p.port, .slice a6 p.xs.length c6] 106)
              rw [Addr.add_mid, Nat.zero_add, cellA hh]
              have e : flat Cy.cells [⟨p.port, a6, c6, p.xs⟩] = [.int .i64 p.port, .slice a6 p.xs.length c6] := rfl
              rw [e] at hu
              rw [← hu]; simp⟩
            have HPUT := hide (fun (W7 w8 : World) (v' : Value) (c : Cy) => RcI.put (W := wr) (W7 := W7) (w8 := w8) (v' := v') (c := c) RI.out.bl HY1.out HY2.out HY3.out)
            have HB0 : Hid (w1.heap.size ≤ wr.heap.size) := RI.out.bl.size
            clear hy1 hy2 hy3
            go_wp2
            go_region_law (first
              | (refine step_app0 rfl _ _ rfl rfl p.pa p.pc _ p.xs rfl rfl (by first | exact HXR.out | exact HXR.out.below (Below.refl _ _).drew | exact HXR.out.below (Below.refl _ _).drew.drew) HA.out.nx HA.out.lx ?_; intro a6 c6 w6 O6 B6; have O6h := hide O6; have B6h : Hid (Below wr.heap.size wr w6) := (by first | exact B6 | exact (Below.refl _ wr).drew.trans B6 | exact (Below.refl _ wr).drew.drew.trans B6); have k26 := (B6h.out.cell (p := ⟨w.heap.size, 2, none⟩) HBW.out).trans k2; clear O6 B6)
              | (refine step_appR rfl _ _ rfl w1.heap.size _ ys rfl (owR_below HY1.out (B6h.out.alloc B6h.out.size _)) _ [⟨p.port, a6, c6, p.xs⟩] rfl (HSR.out w6 a6 c6) HYL.out (by have := HB0.out; have := B6h.out.size; simp; omega) ?_; intro v8 w8 O8 G8 K8; have P8 := hide (HPUT.out _ _ _ ⟨p.port, a6, c6, p.xs⟩ (B6h.out.alloc B6h.out.size _) rfl (O6h.out.alloc _) O8 G8); clear O8 G8 K8))
            all_goals
              go_wp2
              go_ret2
              exact ⟨_, rfl, by rw [HW2.out]; exact HLOW.out _ _ _ P8.out.1, (HLOW.out _ _ _ P8.out.1).bl⟩
      · have f1 : (p.fin == 1) = false := by simp [hf]
        have HN2 := hide (HNO.out (by unfold outB; simp [hf]))
        go_wp2
        all_goals
          go_ret2
          exact ⟨_, rfl, HN2.out, HN2.out.bl⟩
end Go.Proofs.YtclhmggnkhnnlaaGreatDoor
