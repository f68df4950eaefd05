/- pointsmanref02: Take where it gives, Rest. -/
import Derived.Test.YtlddnpgcoekaaaaGreatDoorCuT
import Derived.Deep.RegionHeld3
namespace Go.Proofs.YtlddnpgcoekaaaaGreatDoor
open Go.RowKit

theorem ownsRow_frY {E : Nat → Prop} {W W' : World} {B : Nat} {e : TypeId} {k n : Nat} {v : Value} {vs : List Value} (h : W.ownsRow B e k v n vs) (hf : Fr E W W') (hn : ∀ b, v.ownBlock = some b → ¬ E b) : W'.ownsRow B e k v n vs := by
  refine ⟨h.1, ?_⟩
  rcases h.2 with h0 | ⟨gr, cap, cur, rfl, hg, hcur, rest⟩
  · exact .inl h0
  · exact .inr ⟨gr, cap, cur, rfl, hg, (hf.block _ (Array.getElem?_eq_some_iff.1 hcur).1 (hn gr rfl)).trans hcur, rest⟩
theorem fr_set3 (W : World) (g : Nat) (a b c : Value) : Fr (fun x => x = g) W (((W.setCell ⟨g, 0, none⟩ a).setCell ⟨g, 1, none⟩ b).setCell ⟨g, 2, none⟩ c) :=
  (((Fr.refl (fun x => x = g) W).set ⟨g, 0, none⟩ a rfl).set ⟨g, 1, none⟩ b rfl).set ⟨g, 2, none⟩ c rfl
theorem RC.taken {W : World} {B g : Nat} {v : Value} {xs : List Nat} {t s : Nat} (h : RC W B g v xs t) (hs : s ≤ 8 * xs.length) : RC (W.setCell ⟨g, 1, none⟩ (.int .i64 (s : Int))) B g v xs s := by
  have hF : Fr (fun b => b = g) W (W.setCell ⟨g, 1, none⟩ (.int .i64 (s : Int))) := (Fr.refl _ W).set _ _ rfl
  exact ⟨h.gB, heap_setCell_same h.bk _, ownsRow_frY h.own hF (fun b hb e => h.ne (by rw [hb, e])), h.ne, hs, h.l1⟩
set_option maxRecDepth 100000 in
set_option maxHeartbeats 8000000 in
theorem rtake_yes {w : World} {B g : Nat} {v : Value} {xs : List Nat} {t : Nat} (h : RC w B g v xs t) (hx : ∀ y ∈ xs, y < 256) (n : Nat) (h0 : 1 ≤ n) (h1 : n ≤ 128) (hs : t + n ≤ 8 * xs.length) : Calls Tryz.prog 9 #[.pointer (some ⟨g, 0, none⟩), .int .i64 n] w fun e w' => e = .returned (.tuple #[.agg #[.int .i64 n, .int .u64 (wHi (bval xs t n)), .int .u64 (wLo (bval xs t n))], .int .i64 0]) ∧ RC w' B g v xs (t + n) ∧ Fr (· = g) w w' := by
  have d1 : ((n : Int) < 1) = False := eq_false (by omega)
  have d2 : ((n : Int) > 128) = False := eq_false (by omega)
  have d2' : ((128 : Int) < (n : Int)) = False := eq_false (by omega)
  have hle := h.le
  have d3 : (((8 * xs.length - t : Nat) : Int) < (n : Int)) = False := eq_false (by omega)
  have d3' : ((n : Int) > ((8 * xs.length - t : Nat) : Int)) = False := eq_false (by omega)
  obtain ⟨z, hz⟩ : ∃ z, z = Obj.cells #[.int .i64 0, .int .u64 0, .int .u64 0] 71 := ⟨_, rfl⟩
  obtain ⟨wz, hwz⟩ : ∃ wz, wz = w.alloc z := ⟨_, rfl⟩
  have hR0 : RC wz B g v xs t := by rw [hwz]; exact h.next ((Below.refl _ w).alloc (Nat.le_refl _) z)
  have HL := hide (rleft_any hR0)
  have HZ : Hid (wz.heap[w.heap.size]? = some (.cells #[.int .i64 0, .int .u64 0, .int .u64 0] 71 (0, 0))) := by rw [hwz, hz]; exact heap_alloc_new w _
  have BZ : Hid (Below w.heap.size w wz) := by rw [hwz]; exact (Below.refl _ w).alloc (Nat.le_refl _) _
  have hwsz : wz.heap.size = w.heap.size + 1 := by rw [hwz, World.size_alloc]
  rw [hz] at hwz
  have HWZ := hide hwz
  have HR := hide hR0
  have hgw := h.lt
  have hl := h.l1
  clear h hz hwz hR0
  obtain ⟨i0, hi0, hz0, hz1, hz2⟩ := info_parts Tryz.infoB
  generalize ((8 * xs.length - t : Nat) : Int) = M at *
  go_enter Tryz.func9, Tryz.ntmps9
  go_wp2_with fail
  rw [← HWZ.out]
  refine HL.out.mono ?_
  rintro e w1 ⟨rfl, hb⟩
  have B1 := hide hb
  have hs1 := hb.size
  clear hb HL
  go_wp2_with (at_make; refine wpList_make_full _ rfl _ _ 86 rfl wz.heap.size 4 i0 (.bool false) 1 Tryz.underlying86 hi0 hz0 hz1 .i64 .i64 _ _ n rfl rfl rfl rfl (by rw [hz2]; omega) (by unfold maxLen; omega) (by omega) ?_; intro W0 hm0 hg0)
  rw [made_bools xs t n] at hm0
  have HM0 := hide hm0
  have HB0 := hide (B1.out.grown hg0 (by omega) (fun k e => by cases e))
  clear hm0 hg0
  generalize w1.heap.size = gl at *
  obtain ⟨a, cap, hva, _⟩ := HR.out.own.shape
  have h0x : 0 < xs.length := by omega
  obtain ⟨p, off, rfl, hpl, _⟩ := (RdA.some (by have h := HR.out.own; rw [hva] at h; exact h.rd.2) h0x)
  have HVA := hide hva
  have HSZ := hide hwsz
  have HX := hide hx
  have hgl0 : gl ≠ w.heap.size := by omega
  have hglg : gl ≠ g := by omega
  have HGL : Hid (gl ≠ w.heap.size ∧ gl ≠ g ∧ g ≠ w.heap.size) := hide ⟨hgl0, hglg, by omega⟩
  have HGZ : Hid (wz.heap.size ≤ gl) := hs1
  subst hva
  clear hwsz hx d1 d2 d2' d3 d3' hgl0 hglg hs1 B1 hle
  go_loopw [7] (fun i wr => ∃ k : Nat, k ≤ n ∧ i = .int .i64 k ∧ wr.ownsRow wz.heap.size 4 1 (.slice (some ⟨gl, 0, none⟩) n n) n ((tkL xs t n k).map Value.bool) ∧ Below wz.heap.size wz wr) (fun i _ => n - (intOf i).toNat)
  case atStart => exact ⟨0, Nat.zero_le _, rfl, HM0.out, HB0.out⟩
  case round =>
    obtain ⟨k, hk, rfl, hown, hnx⟩ := hrel
    have HO := hide hown
    have HN := hide hnx
    have R1 := hide (HR.out.next hnx)
    obtain ⟨c0, c1, _⟩ := R1.out.cells
    by_cases hlt : k < n
    · have hrd := (R1.out.own).rd.2
      obtain ⟨p', off', e', _, hcl⟩ := hrd.some h0x
      cases e'
      have HBT := hide (rbit_any p off cap xs (t + k) wr.drew HX.out hl (by omega) hcl)
      have hcell : ∃ x, wr.cell? ⟨gl, n - 1 - k, none⟩ = some x := by
        have := hown.cellAt (n - 1 - k) (by omega)
        rw [this, List.getElem?_eq_getElem (by simp [tkL_length]; omega)]; exact ⟨_, rfl⟩
      obtain ⟨x, hcx⟩ := hcell
      have hfx := hown.frozenAt (n - 1 - k)
      obtain ⟨q, hq⟩ : ∃ q, n - 1 - k = q := ⟨_, rfl⟩
      rw [hq] at hcx hfx
      have hqI : (n : Int) - 1 - (k : Int) = (q : Int) := by omega
      have hqn : (q : Int) < (n : Int) := by omega
      obtain ⟨T, hT⟩ : ∃ T, t + k = T := ⟨_, rfl⟩
      have htk : (t : Int) + (k : Int) = (T : Int) := by omega
      have hkI : (k : Int) < (n : Int) := by omega
      have ST := hide (hown.stored q (.bool (bitOf xs (t + k) == 1))).1
      have HTS := hide (tkL_set xs t n k hlt)
      rw [hq] at HTS
      have HQ := hide hq
      rw [hT] at HBT ST HTS
      have ht9 : T < 1000000 := by omega
      have hne : gl ≠ g := HGL.out.2.1
      have hw1 : IntKind.i64.wrap ((n : Int) - 1) = (n : Int) - 1 := by rw [IntKind.wrap_i64]; omega
      have hw2 : IntKind.i64.wrap (q : Int) = (q : Int) := by rw [IntKind.wrap_i64]; omega
      have hq0 : ¬ (q : Int) < 0 := by omega
      have hwT : IntKind.i64.wrap (T : Int) = (T : Int) := by rw [IntKind.wrap_i64]; omega
      clear hown hnx hrd hcl hq hT hi0 hz0 hz1 hz2
      generalize (bitOf xs T == 1) = bb at *
      go_wp2
      go_region_held3 (fun w' => w'.cell? ⟨g, 0, none⟩ = some (.slice (some ⟨p, off, none⟩) xs.length cap) ∧ w'.cell? ⟨g, 1, none⟩ = some (.int .i64 t)) (go_keep) (first | (go_at_call 23; (try rw [hwT]); refine HBT.out.mono ?_; rintro e w7 ⟨rfl, hw⟩; subst hw))
      have HSET : Hid ((((tkL xs t n k).map Value.bool).set q (.bool bb)) = (tkL xs t n (k + 1)).map Value.bool) := by
        unfold Hid; rw [← HTS.out, List.map_set]
      have ST2 := ST.out
      rw [HSET.out] at ST2
      have ST3 := hide ST2
      clear ST2 ST
      go_wp2
      go_roundw
      case rel => exact ⟨k + 1, by omega, by go_num, ST3.out, (HN.out.setCell HGZ.out _).drew⟩
      case measure => simp [intOf]; omega
    · obtain rfl : k = n := by omega
      have hkI : ¬ (k : Int) < (k : Int) := by omega
      have R2 := hide (R1.out.taken (s := t + k) (by omega))
      have eT : ((t + k : Nat) : Int) = (t : Int) + (k : Int) := by omega
      rw [eT] at R2
      have hneg := HGL.out.2.1
      have HF1 : Hid (Fr (· = g) wr (wr.setCell ⟨g, 1, none⟩ (.int .i64 ((t : Int) + (k : Int))))) := (Fr.refl _ wr).set _ _ rfl
      have O2 := hide (ownsRow_frY HO.out HF1.out (fun b hb e => by have : gl = b := by injection hb
                                                                    exact hneg (this.trans e)))
      have HNm := hide (refNumberB _ (tkL xs t k k) _ (k : Int) (bval xs t k) (by rw [tkL_length]; exact h1) (by rw [tkL_length]) (tkL_val xs t k) (brow_of_own O2.out))
      have HGW := HGL.out.2.2
      clear eT hneg
      go_wp2_with fail
      refine HNm.out.mono ?_
      rintro e w8 ⟨rfl, hb8⟩
      have B8 := hide hb8
      have hz8 : w8.heap[w.heap.size]? = some (.cells #[.int .i64 0, .int .u64 0, .int .u64 0] 71 (0, 0)) := by
        have s0 : w.heap.size < wz.heap.size := by rw [HSZ.out]; omega
        have e1 : wr.heap[w.heap.size]? = wz.heap[w.heap.size]? := HN.out.block _ s0
        have e2 : (wr.setCell ⟨g, 1, none⟩ (.int .i64 ((t : Int) + (k : Int)))).heap[w.heap.size]? = wr.heap[w.heap.size]? := Below.heap_setCell _ _ _ _ (fun e => HGW e.symm)
        have s1 : w.heap.size < (wr.setCell ⟨g, 1, none⟩ (.int .i64 ((t : Int) + (k : Int)))).heap.size := Nat.lt_of_lt_of_le (Nat.lt_of_lt_of_le s0 HN.out.size) HF1.out.size
        rw [hb8.block _ s1, e2, e1]; exact HZ.out
      have c0' : w8.cell? ⟨w.heap.size, 0, none⟩ = some (.int .i64 0) := by unfold World.cell?; simp only [hz8]; rfl
      have c1' : w8.cell? ⟨w.heap.size, 1, none⟩ = some (.int .u64 0) := by unfold World.cell?; simp only [hz8]; rfl
      have c2' : w8.cell? ⟨w.heap.size, 2, none⟩ = some (.int .u64 0) := by unfold World.cell?; simp only [hz8]; rfl
      have f0' : ∀ o, w8.frozen? ⟨w.heap.size, o, none⟩ = false := fun o => by unfold World.frozen?; simp only [hz8]; simp
      clear hb8 hz8
      go_wp2
      have HE := hide (fr_set3 w8 w.heap.size)
      have hlen : w.heap.size ≤ wr.heap.size := Nat.le_trans BZ.out.size HN.out.size
      have HW8 : Hid (Fr (· = g) w w8) := ((Fr.ofBelow (BZ.out.trans (HN.out.mono (by rw [HSZ.out]; omega)))).trans HF1.out (fun _ _ e => e)).trans (Fr.ofBelow (E := fun _ => False) B8.out) (fun _ _ e => e.elim)
      refine bodyPost_ret (v := .tuple #[.agg #[.int .i64 k, .int .u64 (wHi (bval xs t k)), .int .u64 (wLo (bval xs t k))], .int .i64 0]) (by simp [results, Tryz.results9, go_sem, c0', c1', c2']) rfl ⟨rfl, ?_, ?_⟩
      · refine (R2.out.next B8.out).fr (HE.out _ _ _) (fun e => HGW e) (fun b hb e => ?_)
        have h1 := (World.ownsRow.lt HR.out.own b hb).2
        have h2 : b ≠ w.heap.size := fun e2 => by
          have hz := HZ.out
          have hr := HR.out.own
          rcases hr.2 with ⟨h0, _⟩ | ⟨gr, cp, cur, hv, _, hcur, _⟩
          · cases h0
          · have : gr = b := by rw [hv] at hb; injection hb
            rw [this, e2, hz] at hcur
            injection hcur with hcur
            injection hcur with _ ht
            exact absurd ht (by decide)
        exact h2 e
      · exact HW8.out.trans (HE.out _ _ _) (fun b hb e => by have e' : b = w.heap.size := e; omega)
end Go.Proofs.YtlddnpgcoekaaaaGreatDoor
