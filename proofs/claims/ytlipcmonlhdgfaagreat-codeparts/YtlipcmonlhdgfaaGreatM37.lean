/- Pieces of the proof: CoX, CpF. -/
import Derived.Test.YtlipcmonlhdgfaaGreatM36
import Derived.Test.YtlipcmonlhdgfaaGreatM16
import Derived.Test.YtlipcmonlhdgfaaGreatM3
/- package code: may an action be? unlike. -/
namespace Go.Proofs.YtlipcmonlhdgfaaGreat
open Go.RowKit

def acB (D : Int → Int → Int → Int → Int → Int × Int × Int × Int) (c : CoL) (x : AcL) : Bool := decide (x.ps.length ≤ 64) && lsB D c 1 x.cd
theorem actMayBe_any (D : Int → Int → Int → Int → Int → Int × Int × Int × Int) (hD : DoOk D) (c : CoL) (g jb : Nat) (rv : Value) (x : AcL) (w : World) (hj : Jd w g c rv) (hjb : Jb w jb g) (hr : RwR w rv g jb) (hc : CoR w c) (hx : AcR w x) : Calls Tryz.prog 86 #[.pointer (some ⟨g, 0, none⟩), .agg x.cells.toArray] w fun ed w' => ed = .returned (.bool (acB D c x)) ∧ Below w.heap.size w w' := by
  have HL : Hid (∀ W, Below w.heap.size w W → _) := fun W hb => listMayBe_any D hD c g jb rv 1 x.ca x.cc x.cd W (hj.below hb) (hjb.below hb) (hr.below hb) (hc.below hb) (hx.cd.below hb)
  unfold acB AcL.cells
  clear hj hjb hr hc hx
  generalize lsB D c 1 x.cd = t at *
  obtain ⟨name, ps, pa, pc, cd, ca, cc⟩ := x
  simp only at *
  generalize cd.length = n2 at *
  by_cases h : ps.length ≤ 64
  · have d1 : decide (ps.length ≤ 64) = true := by simpa using h
    have d2 : ((ps.length : Int) ≤ 64) = True := by simp; omega
    rw [d1, Bool.true_and]
    clear d1
    generalize ps.length = n1 at *
    go_enter Tryz.func86, Tryz.ntmps86
    go_wp2_with fail
    refine (HL.out _ (below1 _ _)).mono ?_
    rintro e w1 ⟨rfl, hb⟩
    go_wp2
    go_ret
    exact ⟨rfl, bstep (below1 _ _) hb⟩
  · have d1 : decide (ps.length ≤ 64) = false := by simpa using h
    have d2 : ((ps.length : Int) ≤ 64) = False := by simp; omega
    rw [d1, Bool.false_and]
    clear d1
    generalize ps.length = n1 at *
    go_enter Tryz.func86, Tryz.ntmps86
    go_wp2
    go_ret
    exact ⟨rfl, below1 _ _⟩
/- unlike: places of a list of n, none of them twice. -/
def unG (n : Nat) : List Int → List Int → Bool
  | [], _ => true
  | z :: l, S => wtn z n && (!S.contains z && unG n l (z :: S))
def unB (n : Nat) (ls : List (List Int)) : Bool := unG n ls.flatten []
theorem owR_belowK {B et c n : Nat} {W W' : World} {v : Value} {xs : List Value} (h : W.ownsRow B et c v n xs) (hb : Below W.heap.size W W') : W'.ownsRow B et c v n xs := by
  refine ⟨h.1, ?_⟩
  rcases h.2 with h0 | ⟨gr, cap, cur, rfl, hg, hcur, rest⟩
  · exact .inl h0
  · exact .inr ⟨gr, cap, cur, rfl, hg, heap_below hb hcur, rest⟩
def seenL (n : Nat) (S : List Int) : List Value := (List.range n).map (fun (i : Nat) => Value.bool (S.contains (i : Int)))
theorem seenL_len (n : Nat) (S : List Int) : (seenL n S).length = n := by simp [seenL]
theorem seenL_get {n m : Nat} (S : List Int) (h : m < n) : (seenL n S)[m]? = some (.bool (S.contains (m : Int))) := by
  unfold seenL
  rw [List.getElem?_map, List.getElem?_range h]; rfl
theorem seenL_set {n m : Nat} (S : List Int) (_ : m < n) : (seenL n S).set m (.bool true) = seenL n ((m : Int) :: S) := by
  apply List.ext_getElem
  · simp [seenL]
  · intro i h1 h2
    have hi : i < n := by simpa [seenL] using h2
    rw [List.getElem_set]
    simp only [seenL, List.getElem_map, List.getElem_range]
    by_cases e : m = i
    · subst e; simp
    · rw [if_neg e]
      have : ((i : Int) == (m : Int)) = false := by simp; omega
      simp only [List.contains_cons, this, Bool.false_or]
theorem seenL_new (n : Nat) : (madeCells (Value.bool false).cells (n * 1)).toList = seenL n [] := by
  apply List.ext_getElem
  · simp [madeCells, seenL]
  · intro i h1 h2
    simp [madeCells, seenL, Value.cells, Nat.mod_one]
theorem unG_skip (n : Nat) (hs : List HdL) (k : Nat) (h : k < hs.length) (S : List Int) : unG n ((hs.drop k).map HdL.l).flatten S = unG n (hs[k].l ++ ((hs.drop (k + 1)).map HdL.l).flatten) S := by
  rw [List.drop_eq_getElem_cons h, List.map_cons, List.flatten_cons]
theorem unG_no {n : Nat} {z : Int} {r : List Int} {S : List Int} (h : wtn z n = false) : unG n (z :: r) S = false := by rw [unG, h, Bool.false_and]
theorem unG_twice {n : Nat} {z : Int} {r : List Int} {S : List Int} (h : S.contains z = true) : unG n (z :: r) S = false := by rw [unG, h]; simp
theorem unG_on {n : Nat} {z : Int} {r : List Int} {S : List Int} (h1 : wtn z n = true) (h2 : S.contains z = false) : unG n (z :: r) S = unG n r (z :: S) := by rw [unG, h1, h2]; simp
set_option maxRecDepth 100000 in
set_option maxHeartbeats 8000000 in
theorem unlike_any (n : Nat) (hn : n ≤ 1000000) (a : Option Addr) (cap : Nat) (hs : List HdL) (w : World) (hr : HdsR w a hs) : Calls Tryz.prog 83 #[.int .i64 n, .slice a hs.length cap] w fun ed w' => ed = .returned (.bool (unB n (hs.map HdL.l))) ∧ Below w.heap.size w w' := by
  have HR := hide hr
  have hl := hr.ln
  obtain ⟨i0, hi0, hz0, hz1, hz2⟩ := info_parts Tryz.info4
  have HW : Hid (∀ z, Pure _ _ _) := fun z => within_any z n (by omega)
  obtain ⟨V, hV⟩ : ∃ V, V = unB n (hs.map HdL.l) := ⟨_, rfl⟩
  rw [← hV]
  have HV0 : Hid (unG n ((hs.drop 0).map HdL.l).flatten [] = V) := by show _ = _; rw [List.drop_zero, hV]; rfl
  clear hr hV
  go_enter Tryz.func83, Tryz.ntmps83
  go_wp2_with (at_make; refine wpList_make_full _ rfl _ _ 124 rfl w.heap.size 4 i0 (.bool false) 1 Tryz.underlying124 hi0 hz0 hz1 .i64 .i64 _ _ n rfl rfl rfl rfl (by rw [hz2]; omega) (by unfold maxLen; omega) (Nat.le_refl _) ?_; intro W0 hm0 hg0)
  rw [seenL_new] at hm0
  have HM0 := hide hm0
  have HB0 := hide ((Below.refl w.heap.size w).grown hg0 (Nat.le_refl _) (fun k e => by cases e))
  clear hm0 hg0
  go_loopw [14] (fun i wr => ∃ (k : Nat) (S : List Int), k ≤ hs.length ∧ i = .int .i64 k ∧ wr.ownsRow w.heap.size 4 1 (.slice (some ⟨w.heap.size, 0, none⟩) n n) n (seenL n S) ∧ unG n ((hs.drop k).map HdL.l).flatten S = V ∧ Below w.heap.size w wr) (fun i _ => hs.length - (intOf i).toNat)
  case atStart => exact ⟨0, [], by omega, rfl, HM0.out, HV0.out, HB0.out⟩
  case round =>
    obtain ⟨k, S, hk, rfl, ho, hv, hb⟩ := hrel
    have HOW := hide ho
    have HVV := hide hv
    have BB := hide hb
    clear ho hv
    by_cases hlt : k < hs.length
    · have hkI : (k : Int) < (hs.length : Int) := by omega
      obtain ⟨q, off, rfl, -, hc⟩ := (HR.out.below hb).rd.some (by omega)
      have HV1 : Hid (unG n (hs[k].l ++ ((hs.drop (k + 1)).map HdL.l).flatten) S = V) := by show _ = _; rw [← unG_skip n hs k hlt S]; exact HVV.out
      have HX : Hid (IsR w hs[k].a hs[k].l) := HR.out.ok _ (List.getElem_mem hlt)
      have c0 := hc k hlt 0 _ rfl
      rw [Nat.add_zero, Nat.mul_one] at c0
      clear hc hb HVV HR
      obtain ⟨rest, hrest⟩ : ∃ rest, rest = ((hs.drop (k + 1)).map HdL.l).flatten := ⟨_, rfl⟩
      rw [← hrest] at HV1
      have HREST := hide hrest
      clear hrest
      generalize hs[k] = x at *
      obtain ⟨l, xa, xc⟩ := x
      simp only at c0 HX HV1
      have hll := HX.out.ln
      go_wp2
      go_loopw [20] (fun i wi => ∃ (k2 : Nat) (S : List Int), k2 ≤ l.length ∧ i = .int .i64 k2 ∧ wi.ownsRow w.heap.size 4 1 (.slice (some ⟨w.heap.size, 0, none⟩) n n) n (seenL n S) ∧ unG n (l.drop k2 ++ rest) S = V ∧ Below w.heap.size w wi) (fun i _ => l.length - (intOf i).toNat)
      case atStart => exact ⟨0, S, by omega, rfl, HOW.out, by rw [List.drop_zero]; exact HV1.out, BB.out⟩
      case round =>
        obtain ⟨k2, S2, hk2, rfl, ho2, hv2, hb2⟩ := hrel
        have HO2 := hide ho2
        have HV2 := hide hv2
        have B2 := hide hb2
        clear ho2 hv2
        by_cases hlt2 : k2 < l.length
        · have hkI2 : (k2 : Int) < (l.length : Int) := by omega
          obtain ⟨q2, off2, rfl, -, hc2⟩ := (HX.out.below hb2).rd.some (by omega)
          have z0 := hc2 k2 hlt2
          have HV3 : Hid (unG n (l[k2] :: (l.drop (k2 + 1) ++ rest)) S2 = V) := by
            show _ = _
            rw [← List.cons_append, ← List.drop_eq_getElem_cons hlt2]; exact HV2.out
          clear hc2 hb2 HX HV2
          obtain ⟨rest2, hrest2⟩ : ∃ rest2, rest2 = l.drop (k2 + 1) ++ rest := ⟨_, rfl⟩
          rw [← hrest2] at HV3
          have HREST2 := hide hrest2
          clear hrest2
          generalize l[k2] = z at *
          have HWz := hide (HW.out z)
          cases hz : wtn z n
          · rw [hz] at HWz
            have hvf : V = false := by rw [← HV3.out, unG_no hz]
            clear hz
            go_wp2_with fail
            refine (HWz.out _).mono ?_
            rintro e w1 ⟨rfl, hb1⟩
            go_wp2
            go_ret
            exact ⟨by rw [hvf]; rfl, bstep B2.out hb1⟩
          · rw [hz] at HWz
            obtain ⟨m, rfl⟩ : ∃ m : Nat, z = (m : Int) := by
              unfold wtn at hz
              simp at hz
              exact ⟨z.toNat, by omega⟩
            have hm : m < n := by
              unfold wtn at hz
              simp at hz
              omega
            have hmI : (m : Int) < (n : Int) := by omega
            have HZ := hide hz
            clear hz
            go_wp2_with fail
            refine (HWz.out _).mono ?_
            rintro e w1 ⟨rfl, hb1⟩
            have B3 := hide (bstep B2.out hb1)
            have ho3 := owR_belowK HO2.out hb1
            have s0 := (World.ownsRow.cellAt ho3 m (by omega)).trans (seenL_get S2 hm)
            have HO3 := hide ho3
            clear hb1 ho3 HWz
            cases hcon : S2.contains (m : Int)
            · rw [hcon] at s0
              have hv4 := hide (show unG n rest2 ((m : Int) :: S2) = V by rw [← HV3.out, unG_on HZ.out hcon])
              have HF := hide (World.ownsRow.frozenAt HO3.out m)
              have HN := hide (show (w1.setCell ⟨w.heap.size, m, none⟩ (.bool true)).ownsRow w.heap.size 4 1 (.slice (some ⟨w.heap.size, 0, none⟩) n n) n (seenL n ((m : Int) :: S2)) by rw [← seenL_set S2 hm]; exact (World.ownsRow.stored HO3.out m (.bool true)).1)
              have hfz := HF.out
              clear HV3 hcon
              go_wp2
              go_roundw
              case rel => exact ⟨k2 + 1, (m : Int) :: S2, by omega, by go_num, HN.out, HREST2.out ▸ hv4.out, B3.out.setCell (Nat.le_refl _) _⟩
              case measure => simp [intOf]; omega
            · rw [hcon] at s0
              have hvf : V = false := by rw [← HV3.out, unG_twice hcon]
              clear HV3 hcon
              go_wp2
              go_ret
              exact ⟨by rw [hvf]; rfl, B3.out⟩
        · obtain rfl : k2 = l.length := by omega
          have HV4 := hide (show unG n rest S2 = V by have := HV2.out; rw [List.drop_length, List.nil_append] at this; exact this)
          clear HV2 HX hb2
          go_wp2
          go_roundw
          case rel => exact ⟨k + 1, S2, by omega, by go_num, HO2.out, HREST.out.symm ▸ HV4.out, B2.out⟩
          case measure => simp [intOf]; omega
    · obtain rfl : k = hs.length := by omega
      have hvt : V = true := by rw [← HVV.out, List.drop_length]; rfl
      clear HVV hb HR
      go_wp2
      go_ret
      exact ⟨by rw [hvt]; rfl, BB.out⟩
end Go.Proofs.YtlipcmonlhdgfaaGreat
/- package code: who owns slots. -/
namespace Go.Proofs.YtlipcmonlhdgfaaGreat
open Go.RowKit

theorem Tryz.infoZl : (Tryz.prog.info? 22).map (fun i => (i.zero, i.size, i.bytes)) = some (some (.slice none 0 0), 1, 24) := by kernel_rfl
theorem hd_len (x : HdL) : x.cells.length = 1 := rfl
theorem hd_one (x : HdL) : ∀ u ∈ x.cells, u.oneCell' = true := fun u hu => by simp [HdL.cells] at hu; subst hu; rfl
theorem cells_newK (w : World) (cs : List Value) (t : TypeId) : ∀ j u, cs[j]? = some u → (w.alloc (.cells cs.toArray t)).cell? ((⟨w.heap.size, 0, none⟩ : Addr).add j) = some u := by
  intro j u hj
  rw [Addr.add_mid, Nat.zero_add]
  exact (cellA (heap_alloc_new w _) j).trans (by rw [← hj]; simp)
theorem flat_oneH (x : HdL) : flat HdL.cells [x] = x.cells := by simp [flat]
/- The lists that owners gathers. -/
structure OwL (w W : World) (v : Value) (L : List HdL) : Prop where
  bl : Below w.heap.size w W
  ow : W.ownsRow w.heap.size 22 1 v L.length (flat HdL.cells L)
theorem OwL.put {w W W7 w8 : World} {v v' : Value} {L : List HdL} {x : HdL} (h : OwL w W v L) (hb : Below W.heap.size W W7) (O : w8.ownsRow w.heap.size 22 1 v' (L.length + 1) (flat HdL.cells L ++ x.cells)) (G : W7.grownBy w8 v.ownBlock) : OwL w w8 v' (L ++ [x]) := by
  refine ⟨(bstep h.bl hb).grown G (by have := h.bl.size; have := hb.size; omega) (fun k e => ?_), ?_⟩
  · exact (World.ownsRow.lt h.ow k e).1
  · rw [List.length_append, flat_append, flat_oneH]; exact O
theorem OwL.rd {w W : World} {a : Option Addr} {n c : Nat} {L : List HdL} (h : OwL w W (.slice a n c) L) (hl : L.length ≤ 1000000) (hk : ∀ x ∈ L, IsR W x.a x.l) : HdsR W a L := by
  refine ⟨?_, hl, hk⟩
  rcases h.ow.2 with ⟨_, hn⟩ | ⟨g, c2, cur, e, hg, hcur, _⟩
  · exact .inl (List.length_eq_zero_iff.1 hn)
  · injection e with e1 e2 e3
    subst e1
    refine .inr ⟨g, 0, rfl, (World.ownsRow.lt h.ow g rfl).2, fun i hi j u hu => ?_⟩
    have hj : j < 1 := by have := (List.getElem?_eq_some_iff.1 hu).1; rw [hd_len] at this; exact this
    have h0 := (flat_get hd_len L i j hi hj).trans hu
    have h1 := World.ownsRow.cells h.ow rfl (i * 1 + j) _ h0
    rw [Addr.add_mid] at h1
    rw [Nat.zero_add] at h1 ⊢
    exact h1
def acH (x : AcL) : HdL := ⟨x.ps, x.pa, x.pc⟩
def owG (c : CoL) : List HdL := (⟨c.mt, c.ma, c.mc⟩ :: c.hd) ++ c.ac.map acH
theorem take_put {L : List HdL} {M : List HdL} {k : Nat} (h : k < M.length) : (L ++ M.take k) ++ [M[k]] = L ++ M.take (k + 1) := by rw [List.take_succ_eq_append_getElem h, List.append_assoc]
def hdB (c : CoL) (h : HdL) : Bool := frB 1 h.l.length 64 && (wsum c.sl h.l).tmod 8 == 0
def owB (c : CoL) : Bool := unB c.sl.length ((owG c).map HdL.l) && (mtB c && c.hd.all (hdB c))
theorem ent_head : ∀ args w, (callFunc 119 args).run Tryz.prog w = .ok (.enter 119 args) w := enters_of Tryz.func119 (by kernel_rfl) rfl
set_option maxRecDepth 100000 in
set_option maxHeartbeats 16000000 in
theorem owners_any (c : CoL) (g : Nat) (r : Value) (w : World) (hj : Jd w g c r) (hc : CoR w c) (hcap : c.mt.length ≤ c.mc) (hd2 : c.hd.length ≤ 256) (ha2 : c.ac.length ≤ 256) (hsl : ∀ z ∈ c.sl, 1 ≤ z ∧ z ≤ 128) : Calls Tryz.prog 80 #[.pointer (some ⟨g, 0, none⟩)] w fun ed w' => ed = .returned (.bool (owB c)) ∧ Below w.heap.size w w' := by
  have HJ : Hid (∀ W, Below w.heap.size w W → _) := fun W hb => (hj.below hb).at
  have HH := hide hc.hd
  have HA := hide hc.ac
  have hl1 := hc.hd.ln
  have hl2 := hc.ac.ln
  have HUN : Hid (∀ W a n cc, OwL w W (.slice a n cc) (owG c) → n = (owG c).length → Calls Tryz.prog 83 #[.int .i64 c.sl.length, .slice a n cc] W fun e w' => e = .returned (.bool (unB c.sl.length ((owG c).map HdL.l))) ∧ Below W.heap.size W w') := fun W a n cc h e => by
    subst e
    refine unlike_any c.sl.length hc.sl.ln a cc (owG c) W (h.rd (by unfold owG; simp; omega) (fun x hx => ?_))
    unfold owG at hx
    rcases List.mem_append.1 hx with hx | hx
    · rcases List.mem_cons.1 hx with rfl | hx
      · exact hc.mt.below h.bl
      · exact (hc.hd.ok _ hx).below h.bl
    · obtain ⟨y, hy, rfl⟩ := List.mem_map.1 hx
      exact (hc.ac.ok _ hy).ps.below h.bl
  have HME : Hid (∀ W, Below w.heap.size w W → _) := fun W hb => metaMayBe_any c g r W (hj.below hb) (hc.below hb) hcap
  have HHD : Hid (∀ W, Below w.heap.size w W → _) := fun W hb => allHd 119 ent_head (.pointer (some ⟨g, 0, none⟩)) (hdB c) c.ha c.hc c.hd W (hc.hd.rd.below hb) hc.hd.ln (fun z hz W' hb' => headMay_any c g r z W' (hj.below (bstep hb hb')) (hc.sl.below (bstep hb hb')) hsl ((hc.hd.ok z hz).below (bstep hb hb')))
  obtain ⟨i0, hi0, hz0, hz1, hz2⟩ := info_parts Tryz.infoZl
  obtain ⟨q0, q1, q2, -, -, q5, -⟩ := hj.at
  have B0 := hide (below1 w (.cells #[.slice c.ma c.mt.length c.mc] 22))
  obtain ⟨p0, p1, p2, -, -, p5, -⟩ := HJ.out _ B0.out
  have S0 : Hid (OwL w (w.alloc (.cells #[.slice c.ma c.mt.length c.mc] 22)) (.slice (some ⟨w.heap.size, 0, none⟩) 1 1) ([⟨c.mt, c.ma, c.mc⟩] ++ c.hd.take 0)) := ⟨B0.out, by
    refine ⟨by simp [flat, HdL.cells], .inr ⟨w.heap.size, 1, #[.slice c.ma c.mt.length c.mc], rfl, Nat.le_refl _, heap_alloc_new w _, by simp, by unfold maxLen; omega, by simp, by simp [flat, HdL.cells]⟩⟩⟩
  unfold owB
  clear hj hc hcap hsl
  obtain ⟨L0, hL0⟩ : ∃ L0 : List HdL, L0 = [⟨c.mt, c.ma, c.mc⟩] := ⟨_, rfl⟩
  have HL0 : Hid (L0.length = 1) := by show _ = _; rw [hL0]; rfl
  have HOG : Hid (owG c = (L0 ++ c.hd) ++ c.ac.map acH) := by show _ = _; rw [hL0]; rfl
  rw [← hL0] at S0
  clear hL0
  generalize unB c.sl.length ((owG c).map HdL.l) = t1 at *
  generalize mtB c = t2 at *
  generalize c.hd.all (hdB c) = t3 at *
  go_enter Tryz.func80, Tryz.ntmps80
  go_wp2
  go_loopw [3, 20] (fun v i wr => ∃ k : Nat, k ≤ c.hd.length ∧ i = .int .i64 k ∧ OwL w wr v (L0 ++ c.hd.take k)) (fun _ i _ => c.hd.length - (intOf i).toNat)
  case atStart => exact ⟨0, by omega, rfl, S0.out⟩
  case round =>
    obtain ⟨k, hk, rfl, hs⟩ := hrel
    have SS := hide hs
    clear hs S0
    by_cases hlt : k < c.hd.length
    · have hkI : (k : Int) < (c.hd.length : Int) := by omega
      obtain ⟨q, off, eq, -, hcl⟩ := (HH.out.below SS.out.bl).rd.some (by omega)
      have c0 := hcl k hlt 0 _ rfl
      rw [Nat.add_zero, Nat.mul_one] at c0
      have HOW : Hid (wr.ownsRow w.heap.size 22 1 u3 (k + 1) (flat HdL.cells (L0 ++ c.hd.take k))) := by
        have := SS.out.ow
        rw [show (L0 ++ c.hd.take k).length = k + 1 from by rw [List.length_append, HL0.out, List.length_take]; omega] at this
        exact this
      have HTP := hide (take_put (L := L0) hlt)
      clear hcl HH HA
      generalize c.ha = ha at *
      subst eq
      generalize c.hd[k] = x at *
      go_wp2_with (at_builtin; go_loud (refine wpList_append_own_at _ rfl _ _ 157 rfl w.heap.size 22 i0 _ 1 24 Tryz.underlying157 hi0 hz0 hz1 hz2 rfl (by decide) _ (k + 1) (flat HdL.cells (L0 ++ c.hd.take k)) rfl (owR_belowK HOW.out (below2 wr _ _)) ⟨wr.heap.size + 1, 0, none⟩ 1 1 x.cells rfl rfl (fun j u hu => by rw [Addr.add_mid, Nat.zero_add]; exact (cellA (heap_snd wr _ _ _) j).trans (by rw [← hu]; simp [HdL.cells])) (hd_one x) (by unfold maxLen; omega) (by omega) (by have := SS.out.bl.size; simp; omega) ?_; intro v7 w7 O7 G7 _ K7; have SN : Hid (OwL w w7 v7 ((L0 ++ c.hd.take k) ++ [x])) := OwL.put SS.out (below2 wr _ _) (by rw [show (L0 ++ c.hd.take k).length = k + 1 from by rw [List.length_append, HL0.out, List.length_take]; omega]; exact O7) G7; clear O7 G7 K7))
      go_roundw
      case rel => exact ⟨k + 1, by omega, by go_num, by rw [← HTP.out]; exact SN.out⟩
      case measure => simp [intOf]; omega
    · obtain rfl : k = c.hd.length := by omega
      rw [List.take_length] at SS
      have SS2 : Hid (OwL w wr u3 ((L0 ++ c.hd) ++ (c.ac.map acH).take 0)) := by show OwL _ _ _ _; rw [List.take_zero, List.append_nil]; exact SS.out
      obtain ⟨j0, j1, -, -, -, j5, -⟩ := HJ.out _ SS.out.bl
      have HLM : Hid ((c.ac.map acH).length = c.ac.length) := List.length_map ..
      clear HH
      go_wp2
      go_loopw [3, 36] (fun v i wr => ∃ k : Nat, k ≤ c.ac.length ∧ i = .int .i64 k ∧ OwL w wr v ((L0 ++ c.hd) ++ (c.ac.map acH).take k)) (fun _ i _ => c.ac.length - (intOf i).toNat)
      case atStart => exact ⟨0, by omega, rfl, SS2.out⟩
      case round =>
        obtain ⟨k, hk, rfl, hs⟩ := hrel
        have SS := hide hs
        clear hs SS2
        by_cases hlt : k < c.ac.length
        · have hkI : (k : Int) < (c.ac.length : Int) := by omega
          obtain ⟨q, off, eq, -, hcl⟩ := (HA.out.below SS.out.bl).rd.some (by omega)
          obtain ⟨x, hx⟩ : ∃ x, c.ac[k] = x := ⟨_, rfl⟩
          have hkm : k < (c.ac.map acH).length := by rw [HLM.out]; exact hlt
          have HTP := hide (take_put (L := L0 ++ c.hd) hkm)
          rw [List.getElem_map, hx] at HTP
          obtain ⟨nm, ps, pa, pc, cd, ca, cc⟩ := x
          have d0 := hcl k hlt 0 (.string nm) (by rw [hx]; rfl)
          have d1 := hcl k hlt 1 (.slice pa ps.length pc) (by rw [hx]; rfl)
          have d2 := hcl k hlt 2 (.slice ca cd.length cc) (by rw [hx]; rfl)
          rw [Nat.add_zero] at d0
          have HLE : Hid (((L0 ++ c.hd) ++ (c.ac.map acH).take k).length = c.hd.length + 1 + k) := by show _ = _; rw [List.length_append, List.length_append, HL0.out, List.length_take, HLM.out]; omega
          have HOW : Hid (wr.ownsRow w.heap.size 22 1 u3 (c.hd.length + 1 + k) (flat HdL.cells ((L0 ++ c.hd) ++ (c.ac.map acH).take k))) := by
            have := SS.out.ow
            rw [HLE.out] at this
            exact this
          clear hcl HA hx
          generalize c.aa = aa at *
          subst eq
          generalize hcdl : cd.length = cdl at *
          go_wp2_with (at_builtin; go_loud (refine wpList_append_own_at _ rfl _ _ 157 rfl w.heap.size 22 i0 _ 1 24 Tryz.underlying157 hi0 hz0 hz1 hz2 rfl (by decide) _ (c.hd.length + 1 + k) (flat HdL.cells ((L0 ++ c.hd) ++ (c.ac.map acH).take k)) rfl (owR_belowK HOW.out (below2 wr _ _)) ⟨wr.heap.size + 1, 0, none⟩ 1 1 (HdL.cells (acH ⟨nm, ps, pa, pc, cd, ca, cc⟩)) rfl rfl (fun j u hu => by rw [Addr.add_mid, Nat.zero_add]; exact (cellA (heap_snd wr _ _ _) j).trans (by rw [← hu]; simp [HdL.cells, acH])) (hd_one _) (by unfold maxLen; omega) (by omega) (by have := SS.out.bl.size; simp; omega) ?_; intro v7 w7 O7 G7 _ K7; have SN : Hid (OwL w w7 v7 (((L0 ++ c.hd) ++ (c.ac.map acH).take k) ++ [acH ⟨nm, ps, pa, pc, cd, ca, cc⟩])) := OwL.put SS.out (below2 wr _ _) (by rw [HLE.out]; exact O7) G7; clear O7 G7 K7))
          go_roundw
          case rel => exact ⟨k + 1, by omega, by go_num, by rw [← HTP.out]; exact SN.out⟩
          case measure => simp [intOf]; omega
        · obtain rfl : k = c.ac.length := by omega
          have HSL : Hid (OwL w wr u3 (owG c)) := by
            show OwL _ _ _ _
            have := SS.out
            rw [List.take_of_length_le (by rw [HLM.out]; omega), ← HOG.out] at this
            exact this
          obtain ⟨j0, j1, -⟩ := HJ.out _ SS.out.bl
          have hgl : 0 < (owG c).length := by rw [HOG.out, List.length_append, List.length_append, HL0.out]; omega
          obtain ⟨gb, gc, rfl, -⟩ := own_someD HSL.out.ow hgl
          have HU := hide (HUN.out _ _ _ _ HSL.out rfl)
          have BW := hide HSL.out.bl
          clear SS HUN HSL HOG HLM HA HL0
          generalize (owG c).length = gn at *
          go_wp2_with fail
          refine HU.out.mono ?_
          rintro e w1 ⟨rfl, hb⟩
          have B1 := hide (bstep BW.out hb)
          obtain ⟨k0, k1, -⟩ := HJ.out _ B1.out
          have H1 := hide (HME.out _ B1.out)
          clear hb HU HME
          cases t1
          · go_wp2
            go_ret
            exact ⟨rfl, B1.out⟩
          · go_wp2_with fail
            refine H1.out.mono ?_
            rintro e w2 ⟨rfl, hb⟩
            have B2 := hide (bstep B1.out hb)
            obtain ⟨m0, m1, -⟩ := HJ.out _ B2.out
            have H2 := hide (HHD.out _ B2.out)
            clear hb H1 HHD
            cases t2
            · go_wp2
              go_ret
              exact ⟨rfl, B2.out⟩
            · go_wp2_with fail
              refine H2.out.mono ?_
              rintro e w3 ⟨rfl, hb⟩
              have B3 := hide (bstep B2.out hb)
              clear hb H2
              go_wp2
              go_ret
              exact ⟨rfl, B3.out⟩
end Go.Proofs.YtlipcmonlhdgfaaGreat
