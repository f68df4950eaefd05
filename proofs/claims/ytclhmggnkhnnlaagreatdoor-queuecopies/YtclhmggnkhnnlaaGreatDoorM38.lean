/- Pieces of the proof: BgMb, BgFb. -/
import Derived.Test.YtclhmggnkhnnlaaGreatDoorM13
/- A Book's marks of the kind Byte; 1 cells written into a list that is being filled. -/
namespace Go.Proofs.YtclhmggnkhnnlaaGreatDoor
open Go.RowKit

def mkByte (m : Nat) : List Value := [.int .u8 ((1 + m % 250 : Nat) : Int)]
theorem mkByte_len (m : Nat) : (mkByte m).length = 1 := rfl
theorem markByte_any (m : Nat) (hm : m < 1000000000) (W : World) : Calls Tryz.prog 142 #[.int .i64 (m : Int)] W fun e w' => e = .returned (.int .u8 ((1 + m % 250 : Nat) : Int)) ∧ Below W.heap.size W w' := by
  have h1 : (m : Int).tmod 250 = ((m % 250 : Nat) : Int) := by rw [Int.tmod_eq_emod_of_nonneg (by omega)]; omega
  have h2 : IntKind.i64.wrap (1 + ((m % 250 : Nat) : Int)) = ((1 + m % 250 : Nat) : Int) := by rw [IntKind.wrap_i64]; omega
  have h3 : IntKind.u8.wrap ((1 + m % 250 : Nat) : Int) = ((1 + m % 250 : Nat) : Int) := by rw [IntKind.wrap_u8]; omega
  have hr := Nat.mod_lt m (show 0 < 250 by decide)
  generalize m % 250 = r at *
  have h5 : (1 + (r : Int)) % 256 = 1 + (r : Int) := by omega
  go_enter Tryz.func142, Tryz.ntmps142
  go_wp2
  go_ret
  exact ⟨by first | rfl | (simp; done) | simp [h5], Below.refl _ _⟩
theorem isByte_any (m : Nat) (hm : m < 1000000000) (W : World) : Calls Tryz.prog 172 #[.int .u8 ((1 + m % 250 : Nat) : Int), .int .i64 (m : Int)] W fun e w' => e = .returned (.bool true) ∧ Below W.heap.size W w' := by
  have h1 : (m : Int).tmod 250 = ((m % 250 : Nat) : Int) := by rw [Int.tmod_eq_emod_of_nonneg (by omega)]; omega
  have h2 : IntKind.i64.wrap (1 + ((m % 250 : Nat) : Int)) = ((1 + m % 250 : Nat) : Int) := by rw [IntKind.wrap_i64]; omega
  have h3 : IntKind.u8.wrap ((1 + m % 250 : Nat) : Int) = ((1 + m % 250 : Nat) : Int) := by rw [IntKind.wrap_u8]; omega
  have hr := Nat.mod_lt m (show 0 < 250 by decide)
  generalize m % 250 = r at *
  have h5 : (1 + (r : Int)) % 256 = 1 + (r : Int) := by omega
  go_enter Tryz.func172, Tryz.ntmps172
  go_wp2
  go_ret
  exact ⟨by first | rfl | (simp; done) | simp [h5] | (simp; omega), Below.refl _ _⟩
theorem RdM.asByte {m : Nat} {W : World} {v : Value} {n : Nat} (h : RdM 1 W v n (mkByte m)) : ∃ a cap, v = .slice a n cap ∧ ∀ q, q < n → ∃ p, a = some ⟨p, 0, none⟩ ∧ W.cell? ⟨p, q, none⟩ = some (.int .u8 ((1 + m % 250 : Nat) : Int)) := by
  obtain ⟨a, cap, rfl, hc⟩ := h
  refine ⟨a, cap, rfl, fun q hq => ?_⟩
  have hj : ∀ j, j < 1 → q * 1 + j < n * 1 := fun j hj => by omega
  obtain ⟨p, rfl, _⟩ := hc (q * 1) (by omega)
  have hg : ∀ j, j < 1 → W.cell? ⟨p, q * 1 + j, none⟩ = (mkByte m)[j]? := fun j hj3 => by
    obtain ⟨p', e, h'⟩ := hc (q * 1 + j) (hj j hj3)
    injection e with e
    injection e with e
    subst e
    rw [h', mks_get (mkByte_len m) hq hj3]
  exact ⟨p, rfl, by have := hg 0 (by decide); rw [Nat.mul_one] at this; exact this⟩
end Go.Proofs.YtclhmggnkhnnlaaGreatDoor
/- fillByte of a Book. -/
namespace Go.Proofs.YtclhmggnkhnnlaaGreatDoor
open Go.RowKit

abbrev FlByte (W wr : World) (B g : Nat) (vb : Value) (hs : List Hc) (k : Nat) : Prop := FlC 129 2 5 1 mkByte W wr B g vb hs k
set_option maxRecDepth 100000 in
set_option maxHeartbeats 2000000 in
theorem fillByte_any {W : World} {B g : Nat} {vb : Value} {hs : List Hc} (h : FlByte W W B g vb hs 0) (s : SepC g vb hs) (hl : ∀ x ∈ hs, x.n ≤ mxK 2 ∧ x.m < 1000000000 ∧ ∃ a n c, x.vl = .slice a n c) (hn : hs.length ≤ 1000000) :
    Calls Tryz.prog 36 #[.pointer (some ⟨g, 0, none⟩)] W fun e W' => e = .returned (.tuple #[]) ∧ FlByte W W' B g vb hs hs.length := by
  have HS := hide s
  have HL := hide hl
  have H0 := hide h
  obtain ⟨av, nv, cv, hv⟩ : ∃ a n' c, vb = .slice a n' c := by
    rcases h.bk.row.2 with ⟨e, _⟩ | ⟨r, cap, cur, e, _⟩ <;> exact ⟨_, _, _, e⟩
  have hnv : nv = hs.length := by
    rcases h.bk.row.2 with ⟨e, e2⟩ | ⟨r, cap, cur, e, _⟩
    · rw [hv] at e; cases e; exact e2.symm
    · rw [hv] at e; cases e; rfl
  subst hv hnv
  clear s hl h
  go_enter Tryz.func36, Tryz.ntmps36
  go_wp2
  go_loopw [2] (fun i wr => ∃ k : Nat, k ≤ hs.length ∧ i = .int .i64 k ∧ FlByte W wr B g (.slice av hs.length cv) hs k) (fun i _ => hs.length - (intOf i).toNat)
  case atStart => exact ⟨0, Nat.zero_le _, rfl, H0.out⟩
  case round =>
    obtain ⟨k, hk, rfl, hF⟩ := hrel
    have F1 := hide hF
    have c2 := hF.bk.co
    clear hF H0
    by_cases hlt : k < hs.length
    · obtain ⟨r, cap, hv, hr, _, hcap, r0, r1, r2, rs⟩ := F1.out.bk.at hlt
      injection hv with hv1 _ hv3
      subst hv1 hv3
      have hkI : (k : Int) < (hs.length : Int) := by omega
      have dk : decide (k < hs.length) = true := by simp; omega
      have hb1 : Below wr.heap.size wr (wr.alloc (.cells #[hs[k].v, hs[k].vl, .int .i64 hs[k].m] 129)) := (Below.refl _ _).alloc (Nat.le_refl _) _
      have F2 := hide (F1.out.next hb1)
      have hm := (HL.out _ (List.getElem_mem hlt))
      have HM := hide (fun W => markByte_any hs[k].m hm.2.1 W)
      have HST := hide (fun (w' : World) => F2.out.step (w' := w') HS.out hlt)
      obtain ⟨xo, hold⟩ := F1.out.td k hlt (Nat.le_refl _)
      obtain ⟨xs2, ho⟩ := F2.out.td k hlt (Nat.le_refl _)
      obtain ⟨e0, e1, e2⟩ := boxC wr hs[k].v hs[k].vl (.int .i64 hs[k].m) 129
      clear c2 hb1 HL HS
      generalize hs[k] = x at *
      obtain ⟨v, vl, m, n⟩ := x
      simp only at *
      obtain ⟨hm1, hm2, al, nl, cl, hvl⟩ := hm
      replace hm1 : n ≤ 140737488351232 := hm1
      subst hvl
      obtain ⟨a1, c1, hv1⟩ := owR_shape ho
      subst hv1
      have hnc : ¬ (Value.slice a1 n c1).ownBlock = some wr.heap.size := fun e => by have := (World.ownsRow.lt hold _ e).2; omega
      have HO : Hid (FlInC 5 1 (mkByte m) _ _ B (.slice a1 n c1) n 0) := ⟨⟨xs2, ho⟩, Fr.refl _ _⟩
      generalize hW1 : wr.alloc (.cells #[.slice a1 n c1, .slice al nl cl, .int .i64 m] 129) = W1 at *
      have HW1 := hide hW1
      have c2 := F1.out.bk.co
      clear ho hold hW1
      rw [Nat.mul_comm] at r0 r1 r2
      go_wp2
      rw [HW1.out]
      clear HW1
      generalize wr.heap.size = c at *
      go_loopg [4] n (fun gk j wi => ∃ q : Nat, q + gk = n ∧ j = .int .i64 q ∧ FlInC 5 1 (mkByte m) W1 wi B (.slice a1 n c1) n q)
      case atStart => exact ⟨0, by omega, rfl, HO.out⟩
      case round =>
        obtain ⟨q, hq, rfl, hin⟩ := hrel
        have hf := hin.fr
        have f0 := hf.cell e0 hnc
        have f2 := hf.cell e2 hnc
        have O2 := hide hin.ow
        have F3 := hide hf
        by_cases hqt : q < n
        · obtain ⟨rr, hrr⟩ := hin.ow
          obtain ⟨b, cb, hvb⟩ := owR_some hrr (by omega)
          injection hvb with e3 e4 e5
          clear e4 hrr
          subst e3 e5
          have hqI : (q : Int) < (n : Int) := by omega
          have dq : decide (q < n) = true := by simp; omega
          have HNC := hide hnc
          have hnb : ¬ (b = c) := fun e => HNC.out (by rw [← e]; rfl)
          clear hin hf e0 e1 e2 r0 r1 r2 c2 rs HST HO hnc
          go_wp2
          go_region_with (go_at_call 142; refine (HM.out _).mono ?_; rintro e w7 ⟨rfl, hb7⟩; have F7 := hide (F3.out.drew.trans (E' := fun _ => False) (Fr.ofBelow hb7) (fun _ _ e => e.elim)); have f70 := (Fr.ofBelow (E := fun _ => False) hb7).cell f0 (fun e => e); have f72 := (Fr.ofBelow (E := fun _ => False) hb7).cell f2 (fun e => e); obtain ⟨⟨u0, v0⟩, vf, vn⟩ := fill1 (mkByte_len m) (O2.out.imp fun _ hx => owR_below (World.ownsRow.drew hx) hb7) hqt; have V0 := vf (q); have VN := hide (vn _ rfl _ F7.out); clear vf vn hb7)
          all_goals
            go_wp2
            go_roundg (gk - 1)
            case measure => omega
            case rel => exact ⟨q + 1, by omega, by go_num, VN.out⟩
        · obtain rfl : q = n := by omega
          have dq : decide (q < q) = false := by simp
          have R5 := hide (HST.out wr F3.out (by obtain ⟨rest, hx⟩ := O2.out; have hl := hx.1; rw [List.length_append, mks_length (mkByte_len m)] at hl; have hr : rest = [] := List.length_eq_zero_iff.1 (by omega); rw [hr, List.append_nil] at hx; exact hx))
          clear hin hf e0 e1 e2 r0 r1 r2 c2 rs HST HO hnc O2 F3
          go_wp2
          exact ⟨⟨k + 1, by omega, by go_num, R5.out⟩, by simp [intOf]; omega⟩
    · have dk : decide (k < hs.length) = false := by simp; omega
      obtain rfl : k = hs.length := by omega
      go_wp2
      go_end0
      exact ⟨rfl, F1.out⟩
end Go.Proofs.YtclhmggnkhnnlaaGreatDoor
