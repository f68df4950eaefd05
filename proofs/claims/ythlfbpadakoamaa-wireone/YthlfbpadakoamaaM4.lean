/- Pieces of the proof: WD, WL, WLa, WLc, WLb, WE. -/
import Derived.Test.YthlfbpadakoamaaM3
/- package wire: a number, a match, as they are read. -/
namespace Go.Proofs.Ythlfbpadakoamaa
open Go.RowKit

theorem Rr.keep {w W : World} {p q : Nat} {xs : List Nat} (h : Rr w W p q xs) {s : Nat} {o : Obj} (hs : w.heap[s]? = some o) (hne : s ≠ p) : W.heap[s]? = some o := (h.fr.block s (Array.getElem?_eq_some_iff.1 hs).1 hne).trans hs
theorem Fr.keep {p : Nat} {W W' : World} (h : Fr (· = p) W W') {s : Nat} {o : Obj} (hs : W.heap[s]? = some o) (hne : s ≠ p) : W'.heap[s]? = some o := (h.block s (Array.getElem?_eq_some_iff.1 hs).1 hne).trans hs
theorem Fr.after {p : Nat} {W W' : World} {o : Obj} (h : Fr (· = p) (W.alloc o) W') : Fr (· = p) W W' := ((Fr.refl _ W).alloc o).trans h (fun _ _ e => e)
theorem Rr.after {W W' : World} {p q : Nat} {xs : List Nat} {o : Obj} (h : Rr (W.alloc o) W' p q xs) (hp : p < W.heap.size) (hq : q < W.heap.size) : Rr W W' p q xs := ⟨h.fr.after, h.pq, hp, hq, h.cell, h.soft, h.small, h.byte⟩
theorem Reads.yes {α : Type} {F : Nat} {pf : Ps α} {rep : World → (Nat → Prop) → Value → α → Prop} (h : Reads F pf rep) {W : World} {p q : Nat} {xs ys : List Nat} {x : α} (hr : Rr W W p q xs) (hp : pf xs = some (x, ys)) :
    Calls Try.prog F #[.pointer (some ⟨p, 0, none⟩)] W fun e W' => ∃ v, e = .returned v ∧ rep W' (Bn W W') v x ∧ Rr W W' p q ys := (h W p q xs hr).mono (fun e W' k => by
  rcases k with ⟨x', ys', v, k1, k2, k3, k4⟩ | ⟨k1, _⟩
  · rw [hp] at k1
    simp only [Option.some.injEq, Prod.mk.injEq] at k1
    obtain ⟨rfl, rfl⟩ := k1
    exact ⟨v, k2, k3, k4⟩
  · rw [hp] at k1; cases k1)
theorem Reads.no {α : Type} {F : Nat} {pf : Ps α} {rep : World → (Nat → Prop) → Value → α → Prop} (h : Reads F pf rep) {W : World} {p q : Nat} {xs : List Nat} (hr : Rr W W p q xs) (hp : pf xs = none) :
    Calls Try.prog F #[.pointer (some ⟨p, 0, none⟩)] W fun e W' => e = .panicked panW ∧ Fr (· = p) W W' := (h W p q xs hr).mono (fun e W' k => by
  rcases k with ⟨x', ys', v, k1, k2, k3, k4⟩ | ⟨_, k1, k2⟩
  · rw [hp] at k1; cases k1
  · exact ⟨k1, k2⟩)
/- A world with a block of one's own changed. -/
theorem Rr.setc {w W : World} {p q : Nat} {xs : List Nat} (h : Rr w W p q xs) {s o : Nat} {v : Value} (hs : w.heap.size ≤ s) : Rr w (W.setCell ⟨s, o, none⟩ v) p q xs := by
  obtain ⟨off, cap, hc, h1, h2⟩ := h.cell
  have np : s ≠ p := by have := h.pl; omega
  have nq : s ≠ q := by have := h.ql; omega
  have hb := (Below.refl w.heap.size W).setCell (p := ⟨s, o, none⟩) hs v
  have hf : Fr (fun b => b = s) W (W.setCell ⟨s, o, none⟩ v) := (Fr.refl _ W).set _ _ rfl
  refine ⟨h.fr.trans hf (fun b hb e => by omega), h.pq, h.pl, h.ql, ⟨off, cap, hf.cell hc (fun e => np e.symm), h1, Bs.fr h2 hf (fun e => nq e.symm)⟩, by rw [World.frozen?_setCell]; exact h.soft, h.small, h.byte⟩
theorem readR_wide (n q off cap m : Nat) (w : World) (h1 : 128 < n) :
    Calls Try.prog 73 #[.int .i64 n, .slice (some ⟨q, off, none⟩) m cap] w fun e w' => e = .returned (.tuple #[zeroB, .int .i64 1]) ∧ Below w.heap.size w w' := by
  have HW := hide (fun W => widthMayBe_no n W (mayBe_no (by omega)))
  unfold zeroB
  clear h1
  go_enter Try.func73, Try.ntmps73
  go_wp2_with fail
  refine (HW.out _).mono ?_
  rintro e w1 ⟨rfl, rfl⟩
  go_wp2
  refine bodyPost_ret (v := .tuple #[.agg #[.int .i64 0, .int .u64 0, .int .u64 0], .int .i64 1]) (by simp [results, Try.results73, go_sem]) rfl ⟨rfl, ?_⟩
  exact (Below.refl _ _).alloc (Nat.le_refl _) _
/- bits.Read of what is handed out: the number, or none. -/
theorem readR_any (n q off cap : Nat) (xs : List Nat) (w : World) (h0 : 1 ≤ n) (hx : Bs w q off xs) (hb : ∀ x ∈ xs, x < 256) (hl : xs.length = (n + 7) / 8) :
    Calls Try.prog 73 #[.int .i64 n, .slice (some ⟨q, off, none⟩) xs.length cap] w fun e w' => ∃ b1 b2 b3 er : Int, e = .returned (.tuple #[.agg #[.int .i64 b1, .int .u64 b2, .int .u64 b3], .int .i64 er]) ∧ Below w.heap.size w w' ∧ ((n ≤ 128 ∧ bv xs < 2 ^ n ∧ er = 0 ∧ b1 = n ∧ b2 = wHi (bv xs) ∧ b3 = wLo (bv xs)) ∨ (¬ (n ≤ 128 ∧ bv xs < 2 ^ n) ∧ er ≠ 0)) := by
  by_cases h1 : n ≤ 128
  · by_cases h2 : bv xs < 2 ^ n
    · exact (read_loop n q off cap xs w h0 h1 hx hb hl true (by simp [h2])).mono (fun e W' ⟨k1, k2⟩ => ⟨_, _, _, _, k1, k2, .inl ⟨h1, h2, rfl, rfl, rfl, rfl⟩⟩)
    · exact (read_loop n q off cap xs w h0 h1 hx hb hl false (by simp [h2])).mono (fun e W' ⟨k1, k2⟩ => ⟨_, _, _, _, k1, k2, .inr ⟨fun h => h2 h.2, by decide⟩⟩)
  · exact (readR_wide n q off cap xs.length w (by omega)).mono (fun e W' ⟨k1, k2⟩ => ⟨_, _, _, _, k1, k2, .inr ⟨fun h => h1 h.1, by decide⟩⟩)
set_option maxHeartbeats 2000000 in
theorem number_reads : Reads 44 numP BitsR := fun W p q xs h => by
  have hp := h.pl
  have hq := h.ql
  have HB := hide (byte_reads _ p q xs (h.alloc (.cells #[.int .i64 0, .int .u64 0, .int .u64 0] 37)).base)
  have hs := heap_alloc_new W (.cells #[.int .i64 0, .int .u64 0, .int .u64 0] 37)
  have HS := hide hs
  have HPL := hide hp; have HQL := hide hq
  clear hs
  have HBY := hide h.byte
  clear h
  go_enter Try.func44, Try.ntmps44
  go_wp2_with fail
  refine HB.out.mono ?_
  rintro e w1 (⟨n, ys, v, hpf, rfl, hv, hr⟩ | ⟨hpf, rfl, hf⟩)
  · obtain rfl : v = .int .i64 n := hv
    have HXS : Hid (xs = n :: ys) := by
      cases xs with
      | nil => cases hpf
      | cons a l => simp [byteP] at hpf; rw [hpf.1, hpf.2]; exact rfl
    have hs1 := hr.keep HS.out (by omega)
    obtain ⟨a0, a1, a2, af⟩ := cells3 hs1
    have R1 := hide hr
    have HS1 := hide hs1
    clear hr hs1 hpf HB
    by_cases hn : n = 0
    · subst hn
      go_wp2
      refine bodyPost_ret (v := .agg #[.int .i64 0, .int .u64 0, .int .u64 0]) (by simp [results, Try.results44, go_sem, a0, a1, a2]) rfl (.inl ⟨zeroA, ys, _, by rw [HXS.out]; rfl, rfl, rfl, ?_⟩)
      exact (((R1.out.after HPL.out HQL.out).setc (Nat.le_refl _)).setc (Nat.le_refl _)).setc (Nat.le_refl _)
    · have e0 : ((n : Int) == 0) = false := by simp; omega
      obtain ⟨m, hm⟩ : ∃ m, m = (n + 7) / 8 := ⟨_, rfl⟩
      have ew : wrap64 ((wrap64 (wrap64 ((n : Int) + 8) - 1)).tdiv 8) = (m : Int) := by
        have : n < 256 := HBY.out n (by rw [HXS.out]; simp)
        have e1 : wrap64 (wrap64 ((n : Int) + 8) - 1) = ((n + 7 : Nat) : Int) := by unfold wrap64; omega
        rw [e1, Int.tdiv_eq_ediv_of_nonneg (by omega)]
        unfold wrap64
        omega
      have HM := hide hm
      have HN0 : Hid (1 ≤ n) := hide (by omega)
      have EW := hide ew
      clear hn hm ew
      go_wp2_with fail
      rw [EW.out]
      by_cases hl : m ≤ ys.length
      · refine (take_yes m R1.out hl).mono ?_
        rintro e w2 ⟨off, cap, rfl, hk⟩
        have HK := hide hk
        have hs2 := hk.rr.keep HS.out (by omega)
        have HS2 := hide hs2
        have htl : (ys.take m).length = m := by simp; omega
        have HTL := hide htl
        have HL := hide hl
        have HR := hide (readR_any n q off cap (ys.take m) w2 HN0.out hk.bs (fun x hx => HBY.out x (by rw [HXS.out]; exact List.mem_cons_of_mem _ (List.mem_of_mem_take hx))) (htl.trans HM.out))
        rw [htl] at HR
        clear hk hs2 a0 a1 a2 af htl hl R1
        go_wp2_with fail
        refine HR.out.mono ?_
        rintro e w3 ⟨b1, b2, b3, er, rfl, hb, hres⟩
        have hr3 := HK.out.rr.next hb
        have hs3 := hr3.keep HS.out (by omega)
        obtain ⟨a0, a1, a2, af⟩ := cells3 hs3
        have R3 := hide hr3
        have hz : W.heap.size < w3.heap.size := (Array.getElem?_eq_some_iff.1 hs3).1
        have HRES := hide hres
        clear hs3 hr3 hb HK HR hres
        rcases HRES.out with ⟨n1, n2, rfl, rfl, rfl, rfl⟩ | ⟨hno, hne⟩
        · obtain ⟨H, hH⟩ : ∃ H, wHi (bv (ys.take m)) = H := ⟨_, rfl⟩
          obtain ⟨L, hL⟩ : ∃ L, wLo (bv (ys.take m)) = L := ⟨_, rfl⟩
          have HP : Hid (numP xs = some (⟨n, H, L⟩, ys.drop m)) := by
            show _ = _
            rw [HXS.out, ← hH, ← hL, HM.out]
            simp only [numP]
            have := HN0.out
            rw [if_neg (by omega), if_pos ⟨n1, by rw [← HM.out]; exact HL.out, by rw [← HM.out]; exact n2⟩]
          rw [hH, hL]
          clear hH hL HRES n1 n2
          go_wp2_with fail
          refine (must_yes _).mono ?_
          rintro e w4 ⟨rfl, rfl⟩
          go_wp2
          refine bodyPost_ret (v := .agg #[.int .i64 n, .int .u64 H, .int .u64 L]) (by simp [results, Try.results44, go_sem, World.cell?_alloc_past, hz, a0, a1, a2]) rfl (.inl ⟨⟨n, H, L⟩, _, _, HP.out, rfl, rfl, ?_⟩)
          exact ((((R3.out.after HPL.out HQL.out).setc (Nat.le_refl _)).setc (Nat.le_refl _)).setc (Nat.le_refl _)).alloc _
        · have e1 : (er == 0) = false := by simp [hne]
          have HP : Hid (numP xs = none) := by
            show _ = _
            rw [HXS.out]
            simp only [numP]
            have := HN0.out
            rw [if_neg (by omega), if_neg (fun h => hno ⟨h.1, by rw [HM.out]; exact h.2.2⟩)]
          clear hne hno HRES
          go_wp2_with fail
          refine (must_no _).mono ?_
          rintro e w4 ⟨rfl, rfl⟩
          go_wp2
          exact ⟨rfl, .inr ⟨HP.out, rfl, (R3.out.after HPL.out HQL.out).alloc _ |>.fr⟩⟩
      · refine (take_no m R1.out (by omega)).mono ?_
        rintro e w2 ⟨rfl, rfl⟩
        have HP : Hid (numP xs = none) := by
          show _ = _
          rw [HXS.out]
          simp only [numP]
          have := HN0.out
          rw [if_neg (by omega), if_neg (fun h => hl (by rw [HM.out]; exact h.2.1))]
        clear hl
        go_wp2
        exact ⟨rfl, .inr ⟨HP.out, rfl, R1.out.fr.after⟩⟩
  · go_wp2
    exact ⟨rfl, .inr ⟨by cases xs with | nil => rfl | cons a l => simp [byteP] at hpf, rfl, hf.after⟩⟩
theorem cells7 {W : World} {s : Nat} {a b c d e f g : Value} {t : TypeId} (h : W.heap[s]? = some (.cells #[a, b, c, d, e, f, g] t (0, 0))) : W.cell? ⟨s, 0, none⟩ = some a ∧ W.cell? ⟨s, 1, none⟩ = some b ∧ W.cell? ⟨s, 2, none⟩ = some c ∧ W.cell? ⟨s, 3, none⟩ = some d ∧ W.cell? ⟨s, 4, none⟩ = some e ∧ W.cell? ⟨s, 5, none⟩ = some f ∧ W.cell? ⟨s, 6, none⟩ = some g ∧ ∀ o, W.frozen? ⟨s, o, none⟩ = false := by
  refine ⟨?_, ?_, ?_, ?_, ?_, ?_, ?_, fun o => ?_⟩
  all_goals first | (unfold World.cell?; simp only [h]; rfl) | (unfold World.frozen?; simp only [h]; simp)
theorem Rr.after2 {w W W' : World} {p q : Nat} {xs ys : List Nat} {o : Obj} (h : Rr w W p q xs) (k : Rr (W.alloc o) W' p q ys) : Rr w W' p q ys := (h.alloc o).trans k
set_option maxHeartbeats 4000000 in
theorem match_reads : Reads 71 matchP MatchR := fun W p q xs h => by
  have hp := h.pl
  obtain ⟨z7, hz7⟩ : ∃ z7, z7 = Obj.cells #[.int .i64 0, .int .u64 0, .int .u64 0, .int .i64 0, .int .u64 0, .int .u64 0, .int .i64 0] 123 := ⟨_, rfl⟩
  have hs := heap_alloc_new W z7
  have R0 := hide (h.alloc z7)
  have HN := hide (number_reads _ p q xs R0.out.base)
  rw [hz7] at HN R0 hs
  have HS := hide hs
  have HPL := hide hp
  clear hs h hz7
  go_enter Try.func71, Try.ntmps71
  go_wp2_with fail
  refine HN.out.mono ?_
  rintro e w1 (⟨⟨b1, b2, b3⟩, ys, v, hpf, rfl, hv, hr⟩ | ⟨hpf, rfl, hf⟩)
  · obtain rfl : v = .agg #[.int .i64 b1, .int .u64 b2, .int .u64 b3] := hv
    have hs1 := hr.keep HS.out (by omega)
    have hz1 : W.heap.size < w1.heap.size := (Array.getElem?_eq_some_iff.1 hs1).1
    have R1 := hide (R0.out.trans hr)
    have HS1 := hide (hs1)
    have HP1 := hide hpf
    have HN2 := hide (number_reads _ p q ys (R1.out.alloc (.cells #[.int .i64 b1, .int .u64 b2, .int .u64 b3] 37)).base)
    have HT := hide (heap_alloc_new w1 (.cells #[.int .i64 b1, .int .u64 b2, .int .u64 b3] 37))
    have HS1' : Hid ((w1.alloc (.cells #[.int .i64 b1, .int .u64 b2, .int .u64 b3] 37)).heap[W.heap.size]? = _) := hide ((Below.heap_alloc _ _ _ hz1).trans hs1)
    clear hr hs1 hpf HN
    go_wp2_with fail
    refine HN2.out.mono ?_
    rintro e w2 (⟨⟨c1, c2, c3⟩, zs, v, hpf, rfl, hv, hr⟩ | ⟨hpf, rfl, hf⟩)
    · obtain rfl : v = .agg #[.int .i64 c1, .int .u64 c2, .int .u64 c3] := hv
      have hs2 := hr.keep HS1'.out (by omega)
      have hp1 : p < w1.heap.size := by omega
      have ht2 := hr.keep HT.out (by omega)
      have hz2 : w1.heap.size < w2.heap.size := (Array.getElem?_eq_some_iff.1 ht2).1
      have R2 := hide (R1.out.after2 hr)
      have R3 := hide (R2.out.alloc (.cells #[.int .i64 c1, .int .u64 c2, .int .u64 c3] 37))
      have HU := heap_alloc_new w2 (.cells #[.int .i64 c1, .int .u64 c2, .int .u64 c3] 37)
      have HT3 := (Below.heap_alloc w2 (.cells #[.int .i64 c1, .int .u64 c2, .int .u64 c3] 37) _ hz2).trans ht2
      have HS3 := (Below.heap_alloc w2 (.cells #[.int .i64 c1, .int .u64 c2, .int .u64 c3] 37) _ (show W.heap.size < w2.heap.size by omega)).trans hs2
      have HP2 := hide hpf
      obtain ⟨x0, x1, x2, _⟩ := cells3 HT3
      obtain ⟨y0, y1, y2, _⟩ := cells3 HU
      have HHU := hide HU; have HHT := hide HT3; have HHS := hide HS3
      clear hr hs2 ht2 hpf HN2 HU HT3 HS3
      go_wp2
      generalize w2.alloc (.cells #[.int .i64 c1, .int .u64 c2, .int .u64 c3] 37) = W3 at *
      rcases hw : wholeP zs with _ | ⟨l, us⟩
      · have HW := hide (whole_reads.no R3.out.drew.base hw)
        have HP3 := hide hw
        clear hw
        refine wp_region_any (by kernel_rfl) ?_
        change wpAny _ _ _ _ _ _ _ (World.drew _)
        refine wpAny_take (i := 2) (v := ?_) rfl (by kernel_rfl) (by kernel_rfl) (by kernel_rfl) (fun _ _ _ h => h) (Or.inl ⟨by rfl, ?_⟩) ?_
        rotate_left
        · (intro w; go_simp; try (with_reducible rfl))
        refine wpAny_ready (rs := [0, 1, 3]) (by kernel_rfl) (by simp) ?_
        refine AllReady.cons rfl (fun K hK => ?_) ?_
        · go_simp
          refine hK _ _ ?_; clear hK K
          refine wpAny_ready (rs := [1, 3]) (by kernel_rfl) (by simp) ?_
          refine AllReady.cons rfl (fun K hK => ?_) ?_
          · go_simp
            refine hK _ _ ?_; clear hK K
            refine wpAny_ready (rs := [3]) (by kernel_rfl) (by simp) ?_
            refine AllReady.cons rfl (fun K hK => ?_) ?_
            · go_simp
              refine HW.out.mono ?_
              rintro e w4 ⟨rfl, hf⟩
              exact ⟨rfl, .inr ⟨by simp [matchP, HP1.out, HP2.out, HP3.out], rfl, R3.out.fr.drew.trans hf (fun _ _ e => e)⟩⟩
            exact AllReady.nil
          refine AllReady.cons rfl (fun K hK => ?_) ?_
          · go_simp
            refine HW.out.mono ?_
            rintro e w4 ⟨rfl, hf⟩
            exact ⟨rfl, .inr ⟨by simp [matchP, HP1.out, HP2.out, HP3.out], rfl, R3.out.fr.drew.trans hf (fun _ _ e => e)⟩⟩
          exact AllReady.nil
        refine AllReady.cons rfl (fun K hK => ?_) ?_
        · go_simp
          refine hK _ _ ?_; clear hK K
          refine wpAny_ready (rs := [0, 3]) (by kernel_rfl) (by simp) ?_
          refine AllReady.cons rfl (fun K hK => ?_) ?_
          · go_simp
            refine hK _ _ ?_; clear hK K
            refine wpAny_ready (rs := [3]) (by kernel_rfl) (by simp) ?_
            refine AllReady.cons rfl (fun K hK => ?_) ?_
            · go_simp
              refine HW.out.mono ?_
              rintro e w4 ⟨rfl, hf⟩
              exact ⟨rfl, .inr ⟨by simp [matchP, HP1.out, HP2.out, HP3.out], rfl, R3.out.fr.drew.trans hf (fun _ _ e => e)⟩⟩
            exact AllReady.nil
          refine AllReady.cons rfl (fun K hK => ?_) ?_
          · go_simp
            refine HW.out.mono ?_
            rintro e w4 ⟨rfl, hf⟩
            exact ⟨rfl, .inr ⟨by simp [matchP, HP1.out, HP2.out, HP3.out], rfl, R3.out.fr.drew.trans hf (fun _ _ e => e)⟩⟩
          exact AllReady.nil
        refine AllReady.cons rfl (fun K hK => ?_) ?_
        · go_simp
          refine HW.out.mono ?_
          rintro e w4 ⟨rfl, hf⟩
          exact ⟨rfl, .inr ⟨by simp [matchP, HP1.out, HP2.out, HP3.out], rfl, R3.out.fr.drew.trans hf (fun _ _ e => e)⟩⟩
        exact AllReady.nil
      · have HW := hide (whole_reads.yes R3.out.drew.base hw)
        have HP3 := hide hw
        clear hw
        go_region_with (go_at_call 40; refine HW.out.mono ?_; rintro e w4 ⟨v, rfl, hv, hr⟩; obtain rfl : v = .int .i64 l := hv; have R4 := hide (R3.out.drew.trans hr); obtain ⟨u0, u1, u2, _⟩ := cells3 (hr.keep HHT.out (by omega)); obtain ⟨t0, t1, t2, _⟩ := cells3 (hr.keep HHU.out (by omega)); obtain ⟨s0, s1, s2, s3, s4, s5, s6, sf⟩ := cells7 (hr.keep HHS.out (by omega)); clear hr)
        all_goals
          go_wp2
          refine bodyPost_ret (v := .agg #[.int .i64 b1, .int .u64 b2, .int .u64 b3, .int .i64 c1, .int .u64 c2, .int .u64 c3, .int .i64 l]) (by simp [results, Try.results71, go_sem, s0, s1, s2, s3, s4, s5, s6]) rfl (.inl ⟨⟨⟨b1, b2, b3⟩, ⟨c1, c2, c3⟩, l⟩, us, _, by simp [matchP, HP1.out, HP2.out, HP3.out], rfl, rfl, ?_⟩)
          exact ((((((R4.out.setc (Nat.le_refl _)).setc (Nat.le_refl _)).setc (Nat.le_refl _)).setc (Nat.le_refl _)).setc (Nat.le_refl _)).setc (Nat.le_refl _)).setc (Nat.le_refl _)
    · go_wp2
      exact ⟨rfl, .inr ⟨by simp [matchP, HP1.out, hpf], rfl, (R1.out.fr.alloc _).trans hf (fun _ _ e => e)⟩⟩
  · go_wp2
    exact ⟨rfl, .inr ⟨by simp [matchP, hpf], rfl, hf.after⟩⟩
end Go.Proofs.Ythlfbpadakoamaa
/- Lists that are read, as they lie. -/
namespace Go.Proofs.Ythlfbpadakoamaa
open Go.RowKit

structure RepOk {α : Type} (rep : World → (Nat → Prop) → Value → α → Prop) : Prop where
  mono : ∀ {W : World} {X Y : Nat → Prop} {v : Value} {x : α}, rep W X v x → (∀ b, X b → Y b) → rep W Y v x
  frame : ∀ {W W' : World} {X : Nat → Prop} {v : Value} {x : α}, rep W X v x → W.heap.size ≤ W'.heap.size → (∀ b, X b → b < W.heap.size → W'.heap[b]? = W.heap[b]?) → rep W' X v x
def Sl (W : World) (X : Nat → Prop) (v : Value) (n k : Nat) (vs : List Value) : Prop :=
  ∃ a cap, v = .slice a n cap ∧ vs.length = n * k ∧ n ≤ cap ∧ (a = none → cap = 0) ∧ (n = 0 ∨ ∃ b off, a = some ⟨b, off, none⟩ ∧ X b ∧ b < W.heap.size ∧ ∀ i (h : i < vs.length), W.cell? ⟨b, off + i, none⟩ = some vs[i])
theorem Sl.mono {W : World} {X Y : Nat → Prop} {v : Value} {n k : Nat} {vs : List Value} (h : Sl W X v n k vs) (hm : ∀ b, X b → Y b) : Sl W Y v n k vs := by
  obtain ⟨a, cap, h1, h2, h3, h5, h4⟩ := h
  refine ⟨a, cap, h1, h2, h3, h5, ?_⟩
  rcases h4 with h4 | ⟨b, off, e, hx, hl, hc⟩
  · exact .inl h4
  · exact .inr ⟨b, off, e, hm b hx, hl, hc⟩
theorem Sl.frame {W W' : World} {X : Nat → Prop} {v : Value} {n k : Nat} {vs : List Value} (h : Sl W X v n k vs) (hs : W.heap.size ≤ W'.heap.size) (hf : ∀ b, X b → b < W.heap.size → W'.heap[b]? = W.heap[b]?) : Sl W' X v n k vs := by
  obtain ⟨a, cap, h1, h2, h3, h5, h4⟩ := h
  refine ⟨a, cap, h1, h2, h3, h5, ?_⟩
  rcases h4 with h4 | ⟨b, off, e, hx, hl, hc⟩
  · exact .inl h4
  · exact .inr ⟨b, off, e, hx, by omega, fun i hi => (World.cell?_of_block (w := W) (a := ⟨b, off + i, none⟩) (hf b hx hl)).trans (hc i hi)⟩
theorem Sl.own {W : World} {B : Nat} {e : TypeId} {k n : Nat} {v : Value} {vs : List Value} (h : W.ownsRow B e k v n vs) (X : Nat → Prop) (hX : ∀ b, v.ownBlock = some b → B ≤ b → b < W.heap.size → X b) : Sl W X v n k vs := by
  rcases h.2 with ⟨rfl, rfl⟩ | ⟨g, cap, cur, rfl, hg, hcur, h1, h2, h3, h4⟩
  · exact ⟨none, 0, rfl, h.1, Nat.le_refl _, fun _ => rfl, .inl rfl⟩
  · have hl := (Array.getElem?_eq_some_iff.1 hcur).1
    refine ⟨_, cap, rfl, h.1, h1, fun e => by (cases e), .inr ⟨g, 0, rfl, hX g rfl hg hl, hl, fun i hi => ?_⟩⟩
    have h5 := World.ownsRow.cells h (g := g) rfl i _ (List.getElem?_eq_getElem hi)
    rw [add8] at h5
    exact h5
def mkAgg (cs : List Value) : Value := .agg cs.toArray
def mkOne (cs : List Value) : Value := cs.headD undef
/- A list as it lies. -/
def ListR {α : Type} (rep : World → (Nat → Prop) → Value → α → Prop) (mk : List Value → Value) (K : Nat) (W : World) (X : Nat → Prop) (v : Value) (l : List α) : Prop :=
  ∃ css : List (List Value), Sl W X v l.length K css.flatten ∧ css.length = l.length ∧ ∀ i (h : i < css.length) (h' : i < l.length), css[i].length = K ∧ rep W X (mk css[i]) l[i]
theorem ListR.ok {α : Type} {rep : World → (Nat → Prop) → Value → α → Prop} (hr : RepOk rep) (mk : List Value → Value) (K : Nat) : RepOk (ListR rep mk K) where
  mono := fun ⟨css, h1, h2, h3⟩ hm => ⟨css, h1.mono hm, h2, fun i h h' => ⟨(h3 i h h').1, hr.mono (h3 i h h').2 hm⟩⟩
  frame := fun ⟨css, h1, h2, h3⟩ hs hf => ⟨css, h1.frame hs hf, h2, fun i h h' => ⟨(h3 i h h').1, hr.frame (h3 i h h').2 hs hf⟩⟩
structure Ls {α : Type} (rep : World → (Nat → Prop) → Value → α → Prop) (mk : List Value → Value) (K : Nat) (e : TypeId) (f : Ps α) (W0 W : World) (p q : Nat) (xs : List Nat) (k : Nat) (v : Value) (l : List α) (ys : List Nat) (css : List (List Value)) : Prop where
  pf : manyP f k xs = some (l, ys)
  rr : Rr W0 W p q ys
  own : W.ownsRow W0.heap.size e K v k css.flatten
  len : css.length = l.length
  el : ∀ i (h : i < css.length) (h' : i < l.length), css[i].length = K ∧ rep W (fun b => Bn W0 W b ∧ v.ownBlock ≠ some b) (mk css[i]) l[i]
theorem Ls.start {α : Type} {rep : World → (Nat → Prop) → Value → α → Prop} {mk : List Value → Value} {K : Nat} {e : TypeId} {f : Ps α} {W0 : World} {p q : Nat} {xs : List Nat} (h : Rr W0 W0 p q xs) : Ls rep mk K e f W0 W0 p q xs 0 (.slice none 0 0) [] xs [] :=
  ⟨rfl, h, World.ownsRow_nil _ _ _ _, rfl, fun i h _ => by simp at h⟩
theorem own_fr {W W' : World} {B p : Nat} {e : TypeId} {K n : Nat} {v : Value} {vs : List Value} (h : W.ownsRow B e K v n vs) (hf : Fr (· = p) W W') (hp : p < B) : W'.ownsRow B e K v n vs := by
  refine ⟨h.1, ?_⟩
  rcases h.2 with h0 | ⟨gr, cap, cur, rfl, hg, hcur, rest⟩
  · exact .inl h0
  · exact .inr ⟨gr, cap, cur, rfl, hg, (hf.block _ (Array.getElem?_eq_some_iff.1 hcur).1 (by omega)).trans hcur, rest⟩
theorem own_alloc {W : World} {B : Nat} {e : TypeId} {K n : Nat} {v : Value} {vs : List Value} (h : W.ownsRow B e K v n vs) (o : Obj) : (W.alloc o).ownsRow B e K v n vs := by
  refine ⟨h.1, ?_⟩
  rcases h.2 with h0 | ⟨gr, cap, cur, rfl, hg, hcur, rest⟩
  · exact .inl h0
  · exact .inr ⟨gr, cap, cur, rfl, hg, (Below.heap_alloc _ _ _ (Array.getElem?_eq_some_iff.1 hcur).1).trans hcur, rest⟩
theorem own_lt {W : World} {B : Nat} {e : TypeId} {K n : Nat} {v : Value} {vs : List Value} (h : W.ownsRow B e K v n vs) (b : Nat) (hb : v.ownBlock = some b) : B ≤ b ∧ b < W.heap.size := by
  rcases h.2 with ⟨rfl, _⟩ | ⟨gr, cap, cur, rfl, hg, hcur, rest⟩
  · cases hb
  · cases hb; exact ⟨hg, (Array.getElem?_eq_some_iff.1 hcur).1⟩
theorem Rr.grown {w W W' : World} {p q : Nat} {xs : List Nat} {row : Option Nat} (h : Rr w W p q xs) (hg : W.grownBy W' row) (hr : ∀ r, row = some r → w.heap.size ≤ r) : Rr w W' p q xs := by
  obtain ⟨off, cap, hc, h1, h2⟩ := h.cell
  have hf : Fr (fun b => row = some b) W W' := Fr.grown hg (fun r e => e)
  have np : ¬ row = some p := fun e => by have := hr p e; have := h.pl; omega
  have nq : ¬ row = some q := fun e => by have := hr q e; have := h.ql; omega
  have hp : p < W.heap.size := Nat.lt_of_lt_of_le h.pl h.fr.size
  refine ⟨h.fr.trans hf (fun b hb e => by have := hr b e; omega), h.pq, h.pl, h.ql, ⟨off, cap, hf.cell hc np, h1, Bs.fr h2 hf nq⟩, ?_, h.small, h.byte⟩
  have := hf.block p hp np
  have hs := h.soft
  unfold World.frozen? at hs ⊢
  simp only [this]
  exact hs
/- One item more. -/
theorem Ls.step {α : Type} {rep : World → (Nat → Prop) → Value → α → Prop} (hok : RepOk rep) {mk : List Value → Value} {K : Nat} {e : TypeId} {f : Ps α} {W0 W W1 W2 : World} {p q : Nat} {xs : List Nat} {k : Nat} {v v' : Value} {l : List α} {ys zs : List Nat} {css : List (List Value)} {x : α} {cs : List Value} {o : Obj}
    (h : Ls rep mk K e f W0 W p q xs k v l ys css) (hx : f ys = some (x, zs)) (hr : Rr W W1 p q zs) (hrep : rep W1 (Bn W W1) (mk cs) x) (hcs : cs.length = K)
    (ho : W2.ownsRow W0.heap.size e K v' (k + 1) (css.flatten ++ cs)) (hg : (W1.alloc o).grownBy W2 v.ownBlock) (hv : v'.ownBlock = v.ownBlock ∨ v'.ownBlock = some (W1.alloc o).heap.size) :
    Ls rep mk K e f W0 W2 p q xs (k + 1) v' (l ++ [x]) zs (css ++ [cs]) := by
  have hp := h.rr.pl
  have s01 := h.rr.fr.size
  have s1 := hr.fr.size
  have s2 := hg.size
  rw [World.size_alloc] at s2
  have hvb := own_lt h.own
  refine ⟨many_next h.pf hx, ((h.rr.trans hr).alloc o).grown hg (fun r e => (hvb r e).1), by rw [List.flatten_append, List.flatten_singleton]; exact ho, by simp [h.len], fun i hi hi' => ?_⟩
  have key : ∀ b, (W0.heap.size ≤ b ∧ b < W1.heap.size) → v.ownBlock ≠ some b → W2.heap[b]? = W1.heap[b]? := fun b hb hne => by
    rw [hg.block b (by rw [World.size_alloc]; omega) (fun e => hne e.symm), Below.heap_alloc _ _ _ hb.2]
  have nv : ∀ b, b < W1.heap.size → v.ownBlock ≠ some b → v'.ownBlock ≠ some b := fun b hb hne e' => by
    rcases hv with e | e
    · exact hne (e ▸ e')
    · rw [e, World.size_alloc] at e'; injection e' with e'; omega
  by_cases hlt : i < css.length
  · have hl : i < l.length := by rw [← h.len]; exact hlt
    obtain ⟨h1, h2⟩ := h.el i hlt hl
    rw [List.getElem_append_left hlt, List.getElem_append_left hl]
    refine ⟨h1, ?_⟩
    have h3 := hok.frame h2 (W' := W1) s1 (fun b hb hl => hr.fr.block b hl (by have := hb.1.1; omega))
    have h4 := hok.frame h3 (W' := W2) (by omega) (fun b hb hl => key b ⟨hb.1.1, hl⟩ hb.2)
    exact hok.mono h4 (fun b hb => ⟨⟨hb.1.1, by have := hb.1.2; omega⟩, nv b (by have := hb.1.2; omega) hb.2⟩)
  · have ei : i = css.length := by simp at hi; omega
    subst ei
    have el : css.length = l.length := h.len
    have e2 : (l ++ [x])[css.length]'hi' = x := by simp [el]
    have e1 : (css ++ [cs])[css.length]'hi = cs := by simp
    rw [e1, e2]
    refine ⟨hcs, ?_⟩
    have nvb : ∀ b, Bn W W1 b → v.ownBlock ≠ some b := fun b hb e => by have := (hvb b e).2; have := hb.1; omega
    have h4 := hok.frame hrep (W' := W2) (by omega) (fun b hb hl => key b ⟨by have := hb.1; omega, hl⟩ (nvb b hb))
    exact hok.mono h4 (fun b hb => ⟨⟨by have := hb.1; omega, by have := hb.2; omega⟩, nv b hb.2 (nvb b hb)⟩)
theorem Ls.done {α : Type} {rep : World → (Nat → Prop) → Value → α → Prop} (hok : RepOk rep) {mk : List Value → Value} {K : Nat} {e : TypeId} {f : Ps α} {W0 W : World} {p q : Nat} {xs : List Nat} {k : Nat} {v : Value} {l : List α} {ys : List Nat} {css : List (List Value)}
    (h : Ls rep mk K e f W0 W p q xs k v l ys css) : ListR rep mk K W (Bn W0 W) v l :=
  ⟨css, by rw [many_length k h.pf]; exact Sl.own h.own _ (fun b _ h1 h2 => ⟨h1, h2⟩), h.len, fun i h1 h2 => ⟨(h.el i h1 h2).1, hok.mono (h.el i h1 h2).2 (fun b hb => hb.1)⟩⟩
theorem bits_ok : RepOk BitsR := ⟨fun h _ => h, fun h _ _ => h⟩
theorem match_ok : RepOk MatchR := ⟨fun h _ => h, fun h _ _ => h⟩
theorem int_ok : RepOk IntR := ⟨fun h _ => h, fun h _ _ => h⟩
end Go.Proofs.Ythlfbpadakoamaa
/- package wire: a list that is read. -/
namespace Go.Proofs.Ythlfbpadakoamaa
open Go.RowKit

theorem cells_new (w : World) (cs : List Value) (t : TypeId) : ∀ j u, cs[j]? = some u → (w.alloc (.cells cs.toArray t)).cell? ((⟨w.heap.size, 0, none⟩ : Addr).add j) = some u := by
  intro j u hj
  rw [add8, Nat.zero_add]
  simp [hj]
theorem info_bits : (Try.prog.info? 37).map (fun i => (i.zero, i.size, i.bytes)) = some (some (.agg #[.int .i64 0, .int .u64 0, .int .u64 0]), 3, 24) := by kernel_rfl
set_option maxHeartbeats 2000000 in
theorem listOf_bits (n : Nat) (hn : n ≤ 65535) (W0 : World) (p q : Nat) (xs : List Nat) (h : Rr W0 W0 p q xs) :
    Calls Try.prog 86 #[.int .i64 n, .func (Fn.func 44) #[.pointer (some ⟨p, 0, none⟩)] #[]] W0 fun e W' =>
      (∃ l ys v, manyP numP n xs = some (l, ys) ∧ e = .returned v ∧ ListR BitsR mkAgg 3 W' (Bn W0 W') v l ∧ Rr W0 W' p q ys) ∨ (manyP numP n xs = none ∧ e = .panicked panW ∧ Fr (· = p) W0 W') := by
  have hz : p < W0.heap.size := h.pl
  have HS := hide (Ls.start (rep := BitsR) (mk := mkAgg) (K := 3) (e := 37) (f := numP) h)
  obtain ⟨i0, hi0, hz0, hz1, hz2⟩ := info_parts info_bits
  have HG := hide number_reads
  clear h
  go_enter Try.func86, Try.ntmps86
  go_wp2
  go_loopw [5, 7] (fun v i wr => ∃ (k : Nat) (l : List _) (ys : List Nat) (css : List (List Value)), k ≤ n ∧ i = .int .i64 k ∧ Ls BitsR mkAgg 3 37 numP W0 wr p q xs k v l ys css) (fun _ i _ => n - (intOf i).toNat)
  case atStart => exact ⟨0, [], xs, [], Nat.zero_le _, rfl, HS.out⟩
  case round =>
    obtain ⟨k, l, ys, css, hk, rfl, hL⟩ := hrel
    have L0 := hide hL
    clear hL
    by_cases hlt : k < n
    · have HC := hide (HG.out wr p q ys L0.out.rr.base)
      go_wp2_with fail
      refine HC.out.mono ?_
      rintro e w1 (⟨x, zs, u, hpf, rfl, hu, hr⟩ | ⟨hpf, rfl, hf⟩)
      · obtain ⟨b1, b2, b3⟩ := x
        have HU := hide hu
        obtain rfl : u = .agg #[.int .i64 b1, .int .u64 b2, .int .u64 b3] := hu
        have HP := hide hpf
        have R1 := hide hr
        clear hpf hr
        go_wp2_with (at_builtin; refine wpList_append_own_at _ rfl _ _ 86 rfl W0.heap.size 37 i0 (.agg #[.int .i64 0, .int .u64 0, .int .u64 0]) 3 24 Try.underlying86 hi0 hz0 hz1 hz2 rfl (by decide) _ k css.flatten rfl (own_alloc (own_fr L0.out.own R1.out.fr hz) _) ⟨w1.heap.size, 0, none⟩ 1 1 [.int .i64 b1, .int .u64 b2, .int .u64 b3] rfl rfl (cells_new _ _ _) (by simp [Value.oneCell']) (by unfold maxLen; omega) (by omega) (by have := L0.out.rr.fr.size; have := R1.out.fr.size; simp; omega) ?_; intro v2 w2 O2 G2 _ K2; have L2 := hide (L0.out.step bits_ok (cs := [.int .i64 b1, .int .u64 b2, .int .u64 b3]) HP.out R1.out HU.out rfl O2 G2 K2); clear O2 G2 K2)
        go_roundw
        case rel => exact ⟨k + 1, _, _, _, by omega, by go_num, L2.out⟩
        case measure => simp [intOf]; omega
      · have HN := hide (many_stuck L0.out.pf hpf n hlt)
        have HF := hide (L0.out.rr.fr.trans hf (fun _ _ e => e))
        clear hpf hf
        go_wp2
        exact ⟨rfl, .inr ⟨HN.out, rfl, HF.out⟩⟩
    · obtain rfl : k = n := by omega
      go_wp2
      go_ret
      exact .inl ⟨l, ys, _, L0.out.pf, rfl, L0.out.done bits_ok, L0.out.rr⟩
end Go.Proofs.Ythlfbpadakoamaa
/- package wire: a list that is read. -/
namespace Go.Proofs.Ythlfbpadakoamaa
open Go.RowKit

theorem info_int : (Try.prog.info? 3).map (fun i => (i.zero, i.size, i.bytes)) = some (some (.int .i64 0), 1, 8) := by kernel_rfl
set_option maxHeartbeats 2000000 in
theorem listOf_int (n : Nat) (hn : n ≤ 65535) (W0 : World) (p q : Nat) (xs : List Nat) (h : Rr W0 W0 p q xs) :
    Calls Try.prog 93 #[.int .i64 n, .func (Fn.func 40) #[.pointer (some ⟨p, 0, none⟩)] #[]] W0 fun e W' =>
      (∃ l ys v, manyP wholeP n xs = some (l, ys) ∧ e = .returned v ∧ ListR IntR mkOne 1 W' (Bn W0 W') v l ∧ Rr W0 W' p q ys) ∨ (manyP wholeP n xs = none ∧ e = .panicked panW ∧ Fr (· = p) W0 W') := by
  have hz : p < W0.heap.size := h.pl
  have HS := hide (Ls.start (rep := IntR) (mk := mkOne) (K := 1) (e := 3) (f := wholeP) h)
  obtain ⟨i0, hi0, hz0, hz1, hz2⟩ := info_parts info_int
  have HG := hide whole_reads
  clear h
  go_enter Try.func93, Try.ntmps93
  go_wp2
  go_loopw [5, 7] (fun v i wr => ∃ (k : Nat) (l : List _) (ys : List Nat) (css : List (List Value)), k ≤ n ∧ i = .int .i64 k ∧ Ls IntR mkOne 1 3 wholeP W0 wr p q xs k v l ys css) (fun _ i _ => n - (intOf i).toNat)
  case atStart => exact ⟨0, [], xs, [], Nat.zero_le _, rfl, HS.out⟩
  case round =>
    obtain ⟨k, l, ys, css, hk, rfl, hL⟩ := hrel
    have L0 := hide hL
    clear hL
    by_cases hlt : k < n
    · have HC := hide (HG.out wr p q ys L0.out.rr.base)
      go_wp2_with fail
      refine HC.out.mono ?_
      rintro e w1 (⟨x, zs, u, hpf, rfl, hu, hr⟩ | ⟨hpf, rfl, hf⟩)
      · have HU := hide hu
        obtain rfl : u = .int .i64 x := hu
        have HP := hide hpf
        have R1 := hide hr
        clear hpf hr
        go_wp2_with (at_builtin; refine wpList_append_own_at _ rfl _ _ 102 rfl W0.heap.size 3 i0 (.int .i64 0) 1 8 Try.underlying102 hi0 hz0 hz1 hz2 rfl (by decide) _ k css.flatten rfl (own_alloc (own_fr L0.out.own R1.out.fr hz) _) ⟨w1.heap.size, 0, none⟩ 1 1 [.int .i64 x] rfl rfl (cells_new _ _ _) (by simp [Value.oneCell']) (by unfold maxLen; omega) (by omega) (by have := L0.out.rr.fr.size; have := R1.out.fr.size; simp; omega) ?_; intro v2 w2 O2 G2 _ K2; have L2 := hide (L0.out.step int_ok (cs := [.int .i64 x]) HP.out R1.out HU.out rfl O2 G2 K2); clear O2 G2 K2)
        go_roundw
        case rel => exact ⟨k + 1, _, _, _, by omega, by go_num, L2.out⟩
        case measure => simp [intOf]; omega
      · have HN := hide (many_stuck L0.out.pf hpf n hlt)
        have HF := hide (L0.out.rr.fr.trans hf (fun _ _ e => e))
        clear hpf hf
        go_wp2
        exact ⟨rfl, .inr ⟨HN.out, rfl, HF.out⟩⟩
    · obtain rfl : k = n := by omega
      go_wp2
      go_ret
      exact .inl ⟨l, ys, _, L0.out.pf, rfl, L0.out.done int_ok, L0.out.rr⟩
end Go.Proofs.Ythlfbpadakoamaa
/- package wire: a list that is read. -/
namespace Go.Proofs.Ythlfbpadakoamaa
open Go.RowKit

theorem info_match : (Try.prog.info? 123).map (fun i => (i.zero, i.size, i.bytes)) = some (some (.agg #[.int .i64 0, .int .u64 0, .int .u64 0, .int .i64 0, .int .u64 0, .int .u64 0, .int .i64 0]), 7, 56) := by kernel_rfl
set_option maxHeartbeats 2000000 in
theorem listOf_match (n : Nat) (hn : n ≤ 65535) (W0 : World) (p q : Nat) (xs : List Nat) (h : Rr W0 W0 p q xs) :
    Calls Try.prog 70 #[.int .i64 n, .func (Fn.func 71) #[.pointer (some ⟨p, 0, none⟩)] #[]] W0 fun e W' =>
      (∃ l ys v, manyP matchP n xs = some (l, ys) ∧ e = .returned v ∧ ListR MatchR mkAgg 7 W' (Bn W0 W') v l ∧ Rr W0 W' p q ys) ∨ (manyP matchP n xs = none ∧ e = .panicked panW ∧ Fr (· = p) W0 W') := by
  have hz : p < W0.heap.size := h.pl
  have HS := hide (Ls.start (rep := MatchR) (mk := mkAgg) (K := 7) (e := 123) (f := matchP) h)
  obtain ⟨i0, hi0, hz0, hz1, hz2⟩ := info_parts info_match
  have HG := hide match_reads
  clear h
  go_enter Try.func70, Try.ntmps70
  go_wp2
  go_loopw [5, 7] (fun v i wr => ∃ (k : Nat) (l : List _) (ys : List Nat) (css : List (List Value)), k ≤ n ∧ i = .int .i64 k ∧ Ls MatchR mkAgg 7 123 matchP W0 wr p q xs k v l ys css) (fun _ i _ => n - (intOf i).toNat)
  case atStart => exact ⟨0, [], xs, [], Nat.zero_le _, rfl, HS.out⟩
  case round =>
    obtain ⟨k, l, ys, css, hk, rfl, hL⟩ := hrel
    have L0 := hide hL
    clear hL
    by_cases hlt : k < n
    · have HC := hide (HG.out wr p q ys L0.out.rr.base)
      go_wp2_with fail
      refine HC.out.mono ?_
      rintro e w1 (⟨x, zs, u, hpf, rfl, hu, hr⟩ | ⟨hpf, rfl, hf⟩)
      · obtain ⟨⟨b1, b2, b3⟩, ⟨c1, c2, c3⟩, ln⟩ := x
        have HU := hide hu
        obtain rfl : u = .agg #[.int .i64 b1, .int .u64 b2, .int .u64 b3, .int .i64 c1, .int .u64 c2, .int .u64 c3, .int .i64 ln] := hu
        have HP := hide hpf
        have R1 := hide hr
        clear hpf hr
        go_wp2_with (at_builtin; refine wpList_append_own_at _ rfl _ _ 85 rfl W0.heap.size 123 i0 (.agg #[.int .i64 0, .int .u64 0, .int .u64 0, .int .i64 0, .int .u64 0, .int .u64 0, .int .i64 0]) 7 56 Try.underlying85 hi0 hz0 hz1 hz2 rfl (by decide) _ k css.flatten rfl (own_alloc (own_fr L0.out.own R1.out.fr hz) _) ⟨w1.heap.size, 0, none⟩ 1 1 [.int .i64 b1, .int .u64 b2, .int .u64 b3, .int .i64 c1, .int .u64 c2, .int .u64 c3, .int .i64 ln] rfl rfl (cells_new _ _ _) (by simp [Value.oneCell']) (by unfold maxLen; omega) (by omega) (by have := L0.out.rr.fr.size; have := R1.out.fr.size; simp; omega) ?_; intro v2 w2 O2 G2 _ K2; have L2 := hide (L0.out.step match_ok (cs := [.int .i64 b1, .int .u64 b2, .int .u64 b3, .int .i64 c1, .int .u64 c2, .int .u64 c3, .int .i64 ln]) HP.out R1.out HU.out rfl O2 G2 K2); clear O2 G2 K2)
        go_roundw
        case rel => exact ⟨k + 1, _, _, _, by omega, by go_num, L2.out⟩
        case measure => simp [intOf]; omega
      · have HN := hide (many_stuck L0.out.pf hpf n hlt)
        have HF := hide (L0.out.rr.fr.trans hf (fun _ _ e => e))
        clear hpf hf
        go_wp2
        exact ⟨rfl, .inr ⟨HN.out, rfl, HF.out⟩⟩
    · obtain rfl : k = n := by omega
      go_wp2
      go_ret
      exact .inl ⟨l, ys, _, L0.out.pf, rfl, L0.out.done match_ok, L0.out.rr⟩
end Go.Proofs.Ythlfbpadakoamaa
/- package wire: an action, an entry, as they are read. -/
namespace Go.Proofs.Ythlfbpadakoamaa
open Go.RowKit

theorem list_slice {α : Type} {rep : World → (Nat → Prop) → Value → α → Prop} {mk : List Value → Value} {K : Nat} {W : World} {X : Nat → Prop} {v : Value} {l : List α} (h : ListR rep mk K W X v l) : ∃ a cap, v = .slice a l.length cap := by
  obtain ⟨css, ⟨a, cap, e, _⟩, _⟩ := h
  exact ⟨a, cap, e⟩
theorem list_nil {α : Type} (rep : World → (Nat → Prop) → Value → α → Prop) (mk : List Value → Value) (K : Nat) (W : World) (X : Nat → Prop) : ListR rep mk K W X (.slice none 0 0) [] :=
  ⟨[], ⟨none, 0, rfl, by simp, Nat.le_refl _, fun _ => rfl, .inl rfl⟩, rfl, fun i h => by simp at h⟩
def EntryR (W : World) (X : Nat → Prop) (v : Value) (x : EntryA) : Prop := ∃ va vb, v = .agg #[va, .int .i64 x.prio, .string x.act, vb] ∧ ListR MatchR mkAgg 7 W X va x.ms ∧ ListR BitsR mkAgg 3 W X vb x.args
theorem entry_ok : RepOk EntryR where
  mono := fun ⟨va, vb, e, h1, h2⟩ hm => ⟨va, vb, e, (ListR.ok match_ok _ _).mono h1 hm, (ListR.ok bits_ok _ _).mono h2 hm⟩
  frame := fun ⟨va, vb, e, h1, h2⟩ hs hf => ⟨va, vb, e, (ListR.ok match_ok _ _).frame h1 hs hf, (ListR.ok bits_ok _ _).frame h2 hs hf⟩
theorem byte_lt {xs ys : List Nat} {n : Nat} (h : byteP xs = some (n, ys)) (hb : ∀ x ∈ xs, x < 256) : n < 256 := by
  cases xs with
  | nil => cases h
  | cons a l => simp [byteP] at h; rw [← h.1]; exact hb a (by simp)
theorem cells4 {W : World} {s : Nat} {a b c d : Value} {t : TypeId} (h : W.heap[s]? = some (.cells #[a, b, c, d] t (0, 0))) : W.cell? ⟨s, 0, none⟩ = some a ∧ W.cell? ⟨s, 1, none⟩ = some b ∧ W.cell? ⟨s, 2, none⟩ = some c ∧ W.cell? ⟨s, 3, none⟩ = some d ∧ ∀ o, W.frozen? ⟨s, o, none⟩ = false := by
  refine ⟨?_, ?_, ?_, ?_, fun o => ?_⟩
  all_goals first | (unfold World.cell?; simp only [h]; rfl) | (unfold World.frozen?; simp only [h]; simp)
def zeroE : Obj := .cells #[.slice none 0 0, .int .i64 0, .string ⟨#[]⟩, .slice none 0 0] 88
theorem set_other {W : World} {s b o : Nat} {v : Value} (h : b ≠ s) : (W.setCell ⟨s, o, none⟩ v).heap[b]? = W.heap[b]? := Below.heap_setCell _ _ _ _ h
/- What is laid into one's own block, last, turns nothing of what was read. -/
theorem rep_end {α : Type} {rep : World → (Nat → Prop) → Value → α → Prop} (hok : RepOk rep) {W w2 w3 W' : World} {v : Value} {x : α} (h : rep w3 (Bn w2 w3) v x) (hW : W.heap.size ≤ w2.heap.size) (hz : w3.heap.size ≤ W'.heap.size) (hb : ∀ b, w2.heap.size ≤ b → b < w3.heap.size → W'.heap[b]? = w3.heap[b]?) : rep W' (Bn W W') v x :=
  hok.mono (hok.frame h hz (fun b k hl => hb b k.1 hl)) (fun b k => ⟨by have := k.1; omega, by have := k.2; omega⟩)
theorem lt_of_heap {W : World} {s : Nat} {o : Obj} (h : W.heap[s]? = some o) : s < W.heap.size := (Array.getElem?_eq_some_iff.1 h).1
set_option maxHeartbeats 2000000 in
theorem action_reads : Reads 72 actionP EntryR := fun W p q xs h => by
  have hmf : ∀ (fn : Fn) (first cap : Array Value) (w : World), (Instr.makeFunc fn first cap).run Try.prog w = .ok (.func fn first cap) w := fun _ _ _ _ => rfl
  have hp := h.pl
  have hs := heap_alloc_new W zeroE
  have R0 := hide (h.alloc zeroE)
  have HN := hide (name_reads _ p q xs R0.out.base)
  unfold zeroE at HN R0 hs
  have HS := hide hs
  clear hs h
  go_enter Try.func72, Try.ntmps72
  go_wp2_with fail
  refine HN.out.mono ?_
  rintro e w1 (⟨ac, ys, v, hpf, rfl, hv, hr⟩ | ⟨hpf, rfl, hf⟩)
  · obtain rfl : v = .string ac := hv
    have HS1 := hide (hr.keep HS.out (by omega))
    have R1 := hide (R0.out.trans hr)
    have HB := hide (byte_reads _ p q ys R1.out.base)
    have HP1 := hide hpf
    clear hr hpf HN
    go_wp2_with fail
    refine HB.out.mono ?_
    rintro e w2 (⟨n, zs, v, hpf, rfl, hv, hr⟩ | ⟨hpf, rfl, hf⟩)
    · obtain rfl : v = .int .i64 n := hv
      have hn := byte_lt hpf R1.out.byte
      have HS2 := hide (hr.keep HS1.out (by omega))
      have R2 := hide (R1.out.trans hr)
      have HL := hide (listOf_bits n (by omega) w2 p q zs R2.out.base)
      have HP2 := hide hpf
      clear hr hpf HB
      go_wp2_with fail
      refine HL.out.mono ?_
      rintro e w3 (⟨l, us, v, hpf, rfl, hv, hr⟩ | ⟨hpf, rfl, hf⟩)
      · obtain ⟨a, cap, rfl⟩ := list_slice hv
        have hs3 := hr.keep HS2.out (by omega)
        obtain ⟨a0, a1, a2, a3, af⟩ := cells4 hs3
        have R3 := hide (R2.out.trans hr)
        have HV := hide hv
        have HP3 := hide hpf
        have HZ := hide R2.out.fr.size
        clear hr hpf HL hv hs3
        go_wp2
        refine bodyPost_ret (v := .agg #[.slice none 0 0, .int .i64 0, .string ac, .slice a l.length cap]) (by simp [results, Try.results72, go_sem, a0, a1, a2, a3]) rfl (.inl ⟨⟨[], 0, ac, l⟩, us, _, by simp [actionP, listP, HP1.out, HP2.out, HP3.out], rfl, ?_, ?_⟩)
        · refine ⟨_, _, rfl, list_nil _ _ _ _ _, ?_⟩
          have hlt := lt_of_heap HS2.out
          exact rep_end (ListR.ok bits_ok _ _) HV.out HZ.out (by simp) (fun b hb _ => by have hne : b ≠ W.heap.size := (by omega); simp only [set_other hne])
        · exact (((R3.out.setc (Nat.le_refl _)).setc (Nat.le_refl _)).setc (Nat.le_refl _)).setc (Nat.le_refl _)
      · have HF := hide (R2.out.fr.trans hf (fun _ _ e => e))
        have HN := hide hpf
        clear hf hpf
        go_wp2
        exact ⟨rfl, .inr ⟨by simp [actionP, listP, HP1.out, HP2.out, HN.out], rfl, HF.out⟩⟩
    · have HF := hide (R1.out.fr.trans hf (fun _ _ e => e))
      have HN := hide hpf
      clear hf hpf
      go_wp2
      exact ⟨rfl, .inr ⟨by simp [actionP, listP, HP1.out, HN.out], rfl, HF.out⟩⟩
  · have HN := hide hpf
    have HF := hide hf.after
    clear hf hpf
    go_wp2
    exact ⟨rfl, .inr ⟨by simp [actionP, HN.out], rfl, HF.out⟩⟩
end Go.Proofs.Ythlfbpadakoamaa
