/- Pieces of the proof: BqF, QbF, GkN, QbH. -/
import Derived.Test.YtpgkohimcofjnaaGreatDoorM4
import Derived.RegionTactic
import Derived.Deep.LoopGhost
import Derived.Test.YtpgkohimcofjnaaGreatDoorM2
import Derived.ArgAppend
/- fillByte of a Book. -/
namespace Go.Proofs.YtpgkohimcofjnaaGreatDoor
open Go.RowKit

def mk8 (n : Nat) : Nat := 1 + n % 250
theorem mk8_mod (n : Nat) : ((mk8 n : Nat) : Int) % 256 = ((mk8 n : Nat) : Int) := by unfold mk8; omega
theorem mark_any (n : Nat) (hn : n < 1000000000) (w : World) : Calls Tryz.prog 113 #[.int .i64 n] w fun e w' => e = .returned (.int .u8 (mk8 n : Nat)) ∧ w' = w := by
  have h1 : (n : Int).tmod 250 = ((n % 250 : Nat) : Int) := by rw [Int.tmod_eq_emod_of_nonneg (by omega)]; omega
  have h2 : IntKind.i64.wrap (1 + ((n % 250 : Nat) : Int)) = ((1 + n % 250 : Nat) : Int) := by rw [IntKind.wrap_i64]; omega
  have h3 := mk8_mod n
  have h4 : ((1 + n % 250 : Nat) : Int) = (mk8 n : Int) := rfl
  generalize n % 250 = r at *
  go_enter Tryz.func113, Tryz.ntmps113
  go_wp2
  go_ret
  exact ⟨rfl, rfl⟩
theorem is_yes (n : Nat) (hn : n < 1000000000) (w : World) : Calls Tryz.prog 143 #[.int .u8 (mk8 n : Nat), .int .i64 n] w fun e w' => e = .returned (.bool true) ∧ w' = w := by
  have h1 : (n : Int).tmod 250 = ((n % 250 : Nat) : Int) := by rw [Int.tmod_eq_emod_of_nonneg (by omega)]; omega
  have h2 : IntKind.i64.wrap (1 + ((n % 250 : Nat) : Int)) = ((1 + n % 250 : Nat) : Int) := by rw [IntKind.wrap_i64]; omega
  have h3 := mk8_mod n
  have h4 : ((1 + n % 250 : Nat) : Int) = (mk8 n : Int) := rfl
  generalize n % 250 = r at *
  go_enter Tryz.func143, Tryz.ntmps143
  go_wp2
  go_ret
  exact ⟨by simp, rfl⟩
theorem fill_set (q m : Nat) (xs : List Nat) (h : q < xs.length) : (List.replicate q m ++ xs.drop q).set q m = List.replicate (q + 1) m ++ xs.drop (q + 1) := by
  rw [List.set_append_right _ _ (by simp), List.length_replicate, Nat.sub_self, List.drop_eq_getElem_cons h, List.set_cons_zero, List.replicate_succ', List.append_assoc]
  rfl
def LE (hs : List Hb) (b : Nat) : Prop := ∃ x ∈ hs, x.v.ownBlock = some b
/- What holds of the lists while they are being filled. -/
structure Fl (W wr : World) (B g : Nat) (vb : Value) (n : Nat) (hs : List Hb) (k : Nat) : Prop where
  bk : Bk wr B g vb n hs
  ow : ∀ j (hj : j < hs.length), Own8 wr B hs[j].v (if j < k then List.replicate hs[j].xs.length (mk8 hs[j].m) else hs[j].xs)
  fr : Fr (LE hs) W wr
theorem Sep.nE {g : Nat} {vb : Value} {hs : List Hb} (s : Sep g vb hs) : ¬ LE hs g ∧ ∀ b, vb.ownBlock = some b → ¬ LE hs b := by
  constructor
  · rintro ⟨x, hx, e⟩; exact s.g x hx e
  · rintro b hb ⟨x, hx, e⟩; exact s.b x hx b e hb
theorem Fl.next {W wr w' : World} {B g n k : Nat} {vb : Value} {hs : List Hb} (h : Fl W wr B g vb n hs k) (hb : Below wr.heap.size wr w') : Fl W w' B g vb n hs k :=
  ⟨h.bk.next hb, fun j hj => (h.ow j hj).below hb, h.fr.trans (E' := fun _ => False) (Fr.ofBelow hb) (fun _ _ e => e.elim)⟩
/- The k-th list was filled. -/
theorem Fl.step {W wr w' : World} {B g n k : Nat} {vb : Value} {hs : List Hb} (h : Fl W wr B g vb n hs k) (s : Sep g vb hs) (hk : k < hs.length) (hf : Fr (fun b => hs[k].v.ownBlock = some b) wr w') (ho : Own8 w' B hs[k].v (List.replicate hs[k].xs.length (mk8 hs[k].m))) : Fl W w' B g vb n hs (k + 1) := by
  refine ⟨h.bk.fr hf (s.g _ (List.getElem_mem hk)) (fun b hb e => s.b _ (List.getElem_mem hk) b e hb), fun j hj => ?_, h.fr.trans hf (fun b _ e => ⟨_, List.getElem_mem hk, e⟩)⟩
  by_cases e : j = k
  · subst e; rw [if_pos (by omega)]; exact ho
  · have h1 := (h.ow j hj).fr hf (fun b hb e' => s.p j k hj hk e b hb e')
    by_cases e2 : j < k
    · rw [if_pos (by omega)]; rw [if_pos e2] at h1; exact h1
    · rw [if_neg (by omega)]; rw [if_neg e2] at h1; exact h1
structure FlIn (W1 wi : World) (B : Nat) (v : Value) (xs : List Nat) (m q : Nat) : Prop where
  ow : Own8 wi B v (List.replicate q (mk8 m) ++ xs.drop q)
  fr : Fr (fun b => v.ownBlock = some b) W1 wi
theorem own_cell8 {W : World} {B g n cap : Nat} {xs : List Nat} (h : Own8 W B (.slice (some ⟨g, 0, none⟩) n cap) xs) (k : Nat) (hk : k < xs.length) : W.cell? ⟨g, k, none⟩ = some (.int .u8 (xs[k] : Nat)) := by
  obtain ⟨p, off, e, _, hc⟩ := h.rd.2.some (by omega)
  injection e with e
  injection e with e1 e2
  subst e1 e2
  have := hc k hk
  rwa [Nat.zero_add] at this
theorem box3 (W : World) (a b c : Value) (t : TypeId) : (W.alloc (.cells #[a, b, c] t)).cell? ⟨W.heap.size, 0, none⟩ = some a ∧ (W.alloc (.cells #[a, b, c] t)).cell? ⟨W.heap.size, 1, none⟩ = some b ∧ (W.alloc (.cells #[a, b, c] t)).cell? ⟨W.heap.size, 2, none⟩ = some c := by
  have h : (W.alloc (.cells #[a, b, c] t)).heap[W.heap.size]? = some (.cells #[a, b, c] t (0, 0)) := heap_alloc_new W _
  unfold World.cell?; simp only [h]; exact ⟨rfl, rfl, rfl⟩
set_option maxRecDepth 100000 in
set_option maxHeartbeats 2000000 in
theorem fillByte_any {W : World} {B g n : Nat} {vb : Value} {hs : List Hb} (h : Fl W W B g vb n hs 0) (s : Sep g vb hs) (hl : ∀ x ∈ hs, x.xs.length ≤ 100000000 ∧ x.m < 1000000000 ∧ ∃ a n c, x.vl = .slice a n c) (hn : hs.length ≤ 1000000) :
    Calls Tryz.prog 20 #[.pointer (some ⟨g, 0, none⟩)] W fun e W' => e = .returned (.tuple #[]) ∧ Fl W W' B g vb n hs hs.length := by
  have HS := hide s
  have HL := hide hl
  have H0 := hide h
  obtain ⟨av, nv, cv, hv⟩ : ∃ a n' c, vb = .slice a n' c := by
    rcases h.bk.row.2 with ⟨e, _⟩ | ⟨r, cap, cur, e, _⟩ <;> exact ⟨_, _, _, e⟩
  have hnv : nv = hs.length := by
    rcases h.bk.row.2 with ⟨e, e2⟩ | ⟨r, cap, cur, e, _⟩
    · rw [hv] at e; cases e; exact e2.symm
    · rw [hv] at e; cases e; rfl
  subst hv hnv
  clear s hl h
  go_enter Tryz.func20, Tryz.ntmps20
  go_wp2
  go_loopw [2] (fun i wr => ∃ k : Nat, k ≤ hs.length ∧ i = .int .i64 k ∧ Fl W wr B g (.slice av hs.length cv) n hs k) (fun i _ => hs.length - (intOf i).toNat)
  case atStart => exact ⟨0, Nat.zero_le _, rfl, H0.out⟩
  case round =>
    obtain ⟨k, hk, rfl, hF⟩ := hrel
    have F1 := hide hF
    have c2 := hF.bk.c2
    clear hF H0
    by_cases hlt : k < hs.length
    · obtain ⟨r, cap, hv, hr, _, hcap, r0, r1, r2, rs⟩ := F1.out.bk.at hlt
      injection hv with hv1 _ hv3
      subst hv1 hv3
      have hkI : (k : Int) < (hs.length : Int) := by omega
      have dk : decide (k < hs.length) = true := by simp; omega
      have hb1 : Below wr.heap.size wr (wr.alloc (.cells #[hs[k].v, hs[k].vl, .int .i64 hs[k].m] 78)) := (Below.refl _ _).alloc (Nat.le_refl _) _
      have F2 := hide (F1.out.next hb1)
      have hm := (HL.out _ (List.getElem_mem hlt))
      have HO := hide (F2.out.ow k hlt)
      have HM := hide (fun W => mark_any hs[k].m hm.2.1 W)
      have HST := hide (fun (w' : World) => F2.out.step (w' := w') HS.out hlt)
      have hold := F1.out.ow k hlt
      have ho := HO.out
      rw [if_neg (Nat.lt_irrefl k)] at ho hold
      obtain ⟨e0, e1, e2⟩ := box3 wr hs[k].v hs[k].vl (.int .i64 hs[k].m) 78
      clear HO c2 hb1 HL HS
      generalize hs[k] = x at *
      obtain ⟨v, vl, m, xs⟩ := x
      simp only at *
      obtain ⟨hm1, hm2, al, nl, cl, hvl⟩ := hm
      subst hvl
      obtain ⟨a1, c1, hv1, hlc1, hn1, hq1⟩ := ho.shape
      subst hv1
      have hnc : ¬ (Value.slice a1 xs.length c1).ownBlock = some wr.heap.size := fun e => by have := (World.ownsRow.lt hold _ e).2; omega
      have HO := hide ho
      generalize hW1 : wr.alloc (.cells #[.slice a1 xs.length c1, .slice al nl cl, .int .i64 m] 78) = W1 at *
      have HW1 := hide hW1
      have c2 := F1.out.bk.c2
      clear ho hold hW1
      rw [Nat.mul_comm] at r0 r1 r2
      go_wp2
      rw [HW1.out]
      clear HW1
      generalize wr.heap.size = c at *
      go_loopg [4] xs.length (fun gk j wi => ∃ q : Nat, q + gk = xs.length ∧ j = .int .i64 q ∧ FlIn W1 wi B (.slice a1 xs.length c1) xs m q)
      case atStart => exact ⟨0, by omega, rfl, ⟨HO.out, Fr.refl _ _⟩⟩
      case round =>
        obtain ⟨q, hq, rfl, hin⟩ := hrel
        have ho := hin.ow
        have hf := hin.fr
        have f0 := hf.cell e0 hnc
        have f2 := hf.cell e2 hnc
        have O2 := hide ho
        have F3 := hide hf
        by_cases hqt : q < xs.length
        · obtain ⟨b, cb, hvb, hb1, _, hb3, hb4⟩ := Own8.some8 ho (by simp; omega)
          injection hvb with e3 e4 e5
          clear e4
          subst e3 e5
          have hqI : (q : Int) < (xs.length : Int) := by omega
          have dq : decide (q < xs.length) = true := by simp; omega
          have hcq := own_cell8 ho q (by simp; omega)
          have hsq := Own8.soft ho q
          have HF := hide (fill_set q (mk8 m) xs hqt)
          generalize (List.replicate q (mk8 m) ++ xs.drop q)[q]'(by simp; omega) = y at hcq
          have HNC := hide hnc
          clear hin ho hf e0 e1 e2 r0 r1 r2 c2 rs HST HO hq1 hn1 hnc hb1 hb4
          go_wp2
          go_region_with (go_at_call 113; refine (HM.out _).mono ?_; rintro e w7 ⟨rfl, hw⟩; subst hw)
          all_goals
            go_wp2
            go_roundg (gk - 1)
            case measure => omega
            case rel =>
              refine ⟨q + 1, by omega, by go_num, ⟨?_, ?_⟩⟩
              · rw [← HF.out]; exact Own8.set (W := wr.drew) O2.out q (mk8 m)
              · exact F3.out.drew.set _ _ rfl
        · obtain rfl : q = xs.length := by omega
          have dq : decide (xs.length < xs.length) = false := by simp
          have R5 := hide (HST.out wr F3.out (by have := O2.out; rw [List.drop_length, List.append_nil] at this; exact this))
          clear hin ho hf e0 e1 e2 r0 r1 r2 c2 rs HST HO hq1 hn1 hnc O2 F3
          go_wp2
          exact ⟨⟨k + 1, by omega, by go_num, R5.out⟩, by simp [intOf]; omega⟩
    · have dk : decide (k < hs.length) = false := by simp; omega
      obtain rfl : k = hs.length := by omega
      go_wp2
      go_end0
      exact ⟨rfl, F1.out⟩
end Go.Proofs.YtpgkohimcofjnaaGreatDoor
/- A Book's lists of lists of bytes: their marks; fillBlob. -/
namespace Go.Proofs.YtpgkohimcofjnaaGreatDoor
open Go.RowKit

theorem markBlob_any (lo m : Nat) (hm : m < 1000000000) (W : World) (hlo : lo ≤ W.heap.size) : Calls Tryz.prog 116 #[.int .i64 (m : Int)] W fun e w' => ∃ u, e = .returned u ∧ BM lo m w' u ∧ Below W.heap.size W w' := by
  have h1 : (m : Int).tmod 250 = ((m % 250 : Nat) : Int) := by rw [Int.tmod_eq_emod_of_nonneg (by omega)]; omega
  have h2 : IntKind.i64.wrap (1 + ((m % 250 : Nat) : Int)) = ((1 + m % 250 : Nat) : Int) := by rw [IntKind.wrap_i64]; omega
  have h3 : ((1 + m % 250 : Nat) : Int) % 256 = ((1 + m % 250 : Nat) : Int) := by omega
  have HL := hide hlo
  have HF : Hid (∀ w' u b c, u = .slice (some ⟨b, 0, none⟩) 1 c → lo ≤ b → w'.heap[b]? = some (.cells #[.int .u8 ((1 + m % 250 : Nat) : Int)] 5 (0, 0)) → BM lo m w' u) := fun w' u b c e1 e2 e3 => ⟨b, c, e1, e2, e3⟩
  generalize m % 250 = r at *
  clear hlo
  go_enter Tryz.func116, Tryz.ntmps116
  go_wp2
  go_ret
  refine ⟨_, rfl, HF.out _ _ W.heap.size 1 rfl HL.out ?_, (Below.refl _ _).alloc (Nat.le_refl _) _⟩
  have := heap_alloc_new W (.cells #[.int .u8 (1 + (r : Int))] 5)
  rw [show ((1 + r : Nat) : Int) = 1 + (r : Int) by omega]
  exact this
theorem isBlob_yes (lo m : Nat) (hm : m < 1000000000) (W : World) (u : Value) (h : BM lo m W u) : Calls Tryz.prog 146 #[u, .int .i64 (m : Int)] W fun e w' => e = .returned (.bool true) ∧ Below W.heap.size W w' := by
  have h1 : (m : Int).tmod 250 = ((m % 250 : Nat) : Int) := by rw [Int.tmod_eq_emod_of_nonneg (by omega)]; omega
  have h2 : IntKind.i64.wrap (1 + ((m % 250 : Nat) : Int)) = ((1 + m % 250 : Nat) : Int) := by rw [IntKind.wrap_i64]; omega
  have h3 : ((1 + m % 250 : Nat) : Int) % 256 = ((1 + m % 250 : Nat) : Int) := by omega
  obtain ⟨b, c, rfl, _, hh⟩ := h
  have hc : W.cell? ⟨b, 0, none⟩ = some (.int .u8 ((1 + m % 250 : Nat) : Int)) := by unfold World.cell?; simp only [hh]; rfl
  generalize m % 250 = r at *
  clear hh
  go_enter Tryz.func146, Tryz.ntmps146
  go_wp2
  go_ret
  exact ⟨by simp, Below.refl _ _⟩
set_option maxRecDepth 100000 in
set_option maxHeartbeats 2000000 in
theorem fillBlob_any {W : World} {B g lo : Nat} {vb : Value} {hs : List Hc} (hlo : lo ≤ W.heap.size) (h : FlQ W W B g lo vb hs 0) (s : SepC g vb hs) (hl : ∀ x ∈ hs, x.n ≤ 100000000 ∧ x.m < 1000000000 ∧ ∃ a n c, x.vl = .slice a n c) (hn : hs.length ≤ 1000000) :
    Calls Tryz.prog 23 #[.pointer (some ⟨g, 0, none⟩)] W fun e W' => e = .returned (.tuple #[]) ∧ FlQ W W' B g lo vb hs hs.length := by
  have HLO := hide hlo
  have HS := hide s
  have HL := hide hl
  have H0 := hide h
  obtain ⟨av, nv, cv, hv⟩ : ∃ a n' c, vb = .slice a n' c := by
    rcases h.bk.row.2 with ⟨e, _⟩ | ⟨r, cap, cur, e, _⟩ <;> exact ⟨_, _, _, e⟩
  have hnv : nv = hs.length := by
    rcases h.bk.row.2 with ⟨e, e2⟩ | ⟨r, cap, cur, e, _⟩
    · rw [hv] at e; cases e; exact e2.symm
    · rw [hv] at e; cases e; rfl
  subst hv hnv
  clear s hl h hlo
  go_enter Tryz.func23, Tryz.ntmps23
  go_wp2
  go_loopw [2] (fun i wr => ∃ k : Nat, k ≤ hs.length ∧ i = .int .i64 k ∧ FlQ W wr B g lo (.slice av hs.length cv) hs k) (fun i _ => hs.length - (intOf i).toNat)
  case atStart => exact ⟨0, Nat.zero_le _, rfl, H0.out⟩
  case round =>
    obtain ⟨k, hk, rfl, hF⟩ := hrel
    have F1 := hide hF
    have c2 := hF.bk.co
    have BW : Hid (lo ≤ wr.heap.size) := Nat.le_trans HLO.out hF.fr.size
    clear hF H0
    by_cases hlt : k < hs.length
    · obtain ⟨r, cap, hv, hr, _, hcap, r0, r1, r2, rs⟩ := F1.out.bk.at hlt
      injection hv with hv1 _ hv3
      subst hv1 hv3
      have hkI : (k : Int) < (hs.length : Int) := by omega
      have dk : decide (k < hs.length) = true := by simp; omega
      have hb1 : Below wr.heap.size wr (wr.alloc (.cells #[hs[k].v, hs[k].vl, .int .i64 hs[k].m] 80)) := (Below.refl _ _).alloc (Nat.le_refl _) _
      have F2 := hide (F1.out.next hb1)
      have hm := (HL.out _ (List.getElem_mem hlt))
      have HM := hide (markBlob_any lo hs[k].m hm.2.1)
      have HST := hide (fun (w' : World) => F2.out.step (w' := w') HS.out hlt)
      obtain ⟨xo, hold⟩ := F1.out.td k hlt (Nat.le_refl _)
      obtain ⟨xs2, ho⟩ := F2.out.td k hlt (Nat.le_refl _)
      obtain ⟨e0, e1, e2⟩ := box3 wr hs[k].v hs[k].vl (.int .i64 hs[k].m) 80
      clear c2 hb1 HL HS
      generalize hs[k] = x at *
      obtain ⟨v, vl, m, n⟩ := x
      simp only at *
      obtain ⟨hm1, hm2, al, nl, cl, hvl⟩ := hm
      subst hvl
      obtain ⟨a1, c1, hv1⟩ := ownR_shape ho
      subst hv1
      have hnc : ¬ (Value.slice a1 n c1).ownBlock = some wr.heap.size := fun e => by have := (World.ownsRow.lt hold _ e).2; omega
      have HO : Hid (FlInQ lo m _ _ B (.slice a1 n c1) n 0) := ⟨⟨[], xs2, rfl, ho, fun u hu => by cases hu⟩, Fr.refl _ _⟩
      generalize hW1 : wr.alloc (.cells #[.slice a1 n c1, .slice al nl cl, .int .i64 m] 80) = W1 at *
      have HW1 := hide hW1
      have HZ : Hid (lo ≤ W1.heap.size) := by rw [← HW1.out]; show _ ≤ _; have := BW.out; simp; omega
      have c2 := F1.out.bk.co
      clear ho hold hW1
      rw [Nat.mul_comm] at r0 r1 r2
      go_wp2
      rw [HW1.out]
      clear HW1
      generalize wr.heap.size = c at *
      go_loopg [4] n (fun gk j wi => ∃ q : Nat, q + gk = n ∧ j = .int .i64 q ∧ FlInQ lo m W1 wi B (.slice a1 n c1) n q)
      case atStart => exact ⟨0, by omega, rfl, HO.out⟩
      case round =>
        obtain ⟨q, hq, rfl, hin⟩ := hrel
        have hf := hin.fr
        have f0 := hf.cell e0 hnc
        have f2 := hf.cell e2 hnc
        have HIN := hide hin
        have B3 : Hid (lo ≤ wr.heap.size) := Nat.le_trans HZ.out hf.size
        by_cases hqt : q < n
        · obtain ⟨_, _, _, hrr, _⟩ := hin.ow
          obtain ⟨b, cb, hvb⟩ := ownR_some hrr (by omega)
          injection hvb with e3 e4 e5
          clear e4 hrr
          subst e3 e5
          have hqI : (q : Int) < (n : Int) := by omega
          have dq : decide (q < n) = true := by simp; omega
          have HNC := hide hnc
          have hnb : ¬ (b = c) := fun e => HNC.out (by rw [← e]; rfl)
          clear hin hf e0 e1 e2 r0 r1 r2 c2 rs HST HO hnc
          go_wp2
          go_region_with (go_at_call 116; refine (HM.out _ (by have := B3.out; simpa using this)).mono ?_; rintro e w7 ⟨u, rfl, hu, hb7⟩; have I7 := HIN.out.next ((Below.refl _ _).drew.trans (hb7.mono (by simp))); have f70 := (Fr.ofBelow (E := fun _ => False) hb7).cell f0 (fun e => e); have f72 := (Fr.ofBelow (E := fun _ => False) hb7).cell f2 (fun e => e); obtain ⟨⟨r7, v7⟩, s7⟩ := I7.at hqt; have V7 := s7 q; have VN := hide (I7.put hqt hu); obtain ⟨bu, cu, rfl, _⟩ := hu; clear I7 s7 hb7)
          all_goals
            go_wp2
            go_roundg (gk - 1)
            case measure => omega
            case rel => exact ⟨q + 1, by omega, by go_num, VN.out⟩
        · obtain rfl : q = n := by omega
          have dq : decide (q < q) = false := by simp
          have R5 := hide (HST.out wr HIN.out.fr HIN.out.done)
          clear hin hf e0 e1 e2 r0 r1 r2 c2 rs HST HO hnc
          go_wp2
          exact ⟨⟨k + 1, by omega, by go_num, R5.out⟩, by simp [intOf]; omega⟩
    · have dk : decide (k < hs.length) = false := by simp; omega
      obtain rfl : k = hs.length := by omega
      go_wp2
      go_end0
      exact ⟨rfl, F1.out⟩
end Go.Proofs.YtpgkohimcofjnaaGreatDoor
/- One element is put behind a row of one's own: in its place, or somewhere new, and then all else is as it was. -/
namespace Go.Proofs.YtpgkohimcofjnaaGreatDoor
open Go.RowKit

theorem wpList_appC {P : Program} {w : World} {ops : Array Oper} {rest : List Oper} {o : Oper} {a : Act} {Q : Exit → Act → World → Prop} (hgd : o.guard = none) (s x : Operand) (t : TypeId) (ho : o.op = .call { callee := .builtin .append, args := #[s, x], argTypes := #[t, t] })
    (et : TypeId) (i0 : TypeInfo) (z : Value) (c bytes : Nat) (hu : P.underlying t = some (.slice et)) (hi0 : P.info? et = some i0) (hz0 : i0.zero = some z) (hz1 : i0.size = c) (hz2 : i0.bytes = bytes) (hz3 : z.cells.size = c) (hc0 : 0 < c) (hby : bytes ≤ 100000)
    (B : Nat) (v : Value) (n : Nat) (xs : List Value) (hs : a.eval s = v) (hown : w.ownsRow B et c v n xs) (p : Nat) (ys : List Value) (hx : a.eval x = .slice (some ⟨p, 0, none⟩) 1 1) (hyl : ys.length = c) (hr : ∀ j u, ys[j]? = some u → w.cell? ((⟨p, 0, none⟩ : Addr).add j) = some u) (hone : ∀ u ∈ ys, u.oneCell' = true)
    (hl : n ≤ 1000000000) (hB : B ≤ w.heap.size)
    (h : ∀ v' w', w'.ownsRow B et c v' (n + 1) (xs ++ ys) → (v'.ownBlock = v.ownBlock ∧ w.grownBy w' v.ownBlock) ∨ (w.grownBy w' none ∧ ∀ b, v'.ownBlock = some b → w.heap.size ≤ b) → wpList P ops Q rest (a.put o.dst v') w') :
    wpList P ops Q (o :: rest) a w := by
  have hbb : (n + 1) * bytes ≤ 140737488355328 := by
    have : (n + 1) * bytes ≤ (1000000000 + 1) * 100000 := Nat.mul_le_mul (by omega) hby
    omega
  have hyl1 : ys.length = 1 * c := by omega
  have hown0 := hown
  rcases hown.2 with ⟨rfl, hn⟩ | ⟨g, cap, cur, rfl, hg, hcur, h1, h2, h3, h4⟩
  · subst hn
    have hx0 : xs = [] := List.length_eq_zero_iff.1 (by have := hown.1; omega)
    subst hx0
    refine wpList_append_grows w hgd s x t ho et i0 z c bytes hu hi0 hz0 hz1 hz2 hz3 hc0 none 0 0 [] hs (fun _ => ⟨rfl, rfl⟩) (by simp) (fun _ e => by cases e) ⟨p, 0, none⟩ 1 1 ys hx hyl1 hr hone (by omega) (by unfold maxLen; omega) hbb ?_
    intro v' w' r1 r2
    exact h v' w' (ownR_lower r1 hB) (.inr ⟨r2, fun b hb => (World.ownsRow.lt r1 b hb).1⟩)
  · by_cases hfit : n + 1 ≤ cap
    · refine wpList_append_fits w hgd s x t ho B et i0 c hu hi0 hz1 g n cap xs hs hown0 ⟨p, 0, none⟩ 1 1 ys hx hyl1 hr hone hfit ?_
      intro w' r1 r2
      exact h _ w' r1 (.inl ⟨rfl, r2⟩)
    · have hcell : ∀ b, (some (⟨g, 0, none⟩ : Addr)) = some b → ∀ j u, xs[j]? = some u → w.cell? (b.add j) = some u := fun b e j u hu => by
        cases e; exact World.ownsRow.cells hown0 (g := g) rfl j u hu
      refine wpList_append_grows w hgd s x t ho et i0 z c bytes hu hi0 hz0 hz1 hz2 hz3 hc0 (some ⟨g, 0, none⟩) n cap xs hs (fun e => by cases e) hown0.1 hcell ⟨p, 0, none⟩ 1 1 ys hx hyl1 hr hone (by omega) (by unfold maxLen; omega) hbb ?_
      intro v' w' r1 r2
      exact h v' w' (ownR_lower r1 hB) (.inr ⟨r2, fun b hb => (World.ownsRow.lt r1 b hb).1⟩)
theorem cells_newC (w : World) (cs : List Value) (t : TypeId) : ∀ j u, cs[j]? = some u → (w.alloc (.cells cs.toArray t)).cell? ((⟨w.heap.size, 0, none⟩ : Addr).add j) = some u := by
  intro j u hj
  have e : (⟨w.heap.size, 0, none⟩ : Addr).add j = ⟨w.heap.size, j, none⟩ := by rw [Addr.add_mid, Nat.zero_add]
  rw [e, World.cell?_alloc_new]
  simpa using hj
end Go.Proofs.YtpgkohimcofjnaaGreatDoor
/- growBlob of a Book. -/
namespace Go.Proofs.YtpgkohimcofjnaaGreatDoor
open Go.RowKit

theorem Tryz.infoBQ : (Tryz.prog.info? 22).map (fun i => (i.zero, i.size, i.bytes)) = some (some (.slice none 0 0), 1, 24) := by kernel_rfl
set_option maxRecDepth 100000 in
set_option maxHeartbeats 2000000 in
theorem growBlob_any {W : World} {B g lo : Nat} {vb : Value} {hs : List Hc} (hlo : lo ≤ W.heap.size) (h : GrQ W W B g lo vb hs hs 0) (hn : hs.length ≤ 1000000) :
    Calls Tryz.prog 53 #[.pointer (some ⟨g, 0, none⟩)] W fun e W' => e = .returned (.tuple #[]) ∧ ∃ ks, ks.length = hs.length ∧ GrQ W W' B g lo vb hs ks ks.length := by
  have HLO := hide hlo
  have H0 := hide h
  obtain ⟨i0, hi0, hz0, hz1, hz2⟩ := info_parts Tryz.infoBQ
  obtain ⟨av, nv, cv, hv⟩ : ∃ a n' c, vb = .slice a n' c := by
    rcases h.bk.row.2 with ⟨e, _⟩ | ⟨r, cap, cur, e, _⟩ <;> exact ⟨_, _, _, e⟩
  have hnv : nv = hs.length := by
    rcases h.bk.row.2 with ⟨e, e2⟩ | ⟨r, cap, cur, e, _⟩
    · rw [hv] at e; cases e; exact e2.symm
    · rw [hv] at e; cases e; rfl
  subst hv hnv
  clear h hlo
  generalize hN : hs.length = N at *
  have HN := hide hN
  clear hN
  go_enter Tryz.func53, Tryz.ntmps53
  go_wp2
  go_loopg [2] N (fun gk i wr => ∃ (k : Nat) (ks : List Hc), k + gk = N ∧ i = .int .i64 k ∧ ks.length = N ∧ GrQ W wr B g lo (.slice av N cv) hs ks k)
  case atStart => exact ⟨0, hs, by omega, rfl, HN.out, H0.out⟩
  case round =>
    obtain ⟨k, ks, hk, rfl, hksl, hG⟩ := hrel
    have HK := hide hksl
    have HKG := hide hk
    have G1 := hide hG
    have c2 := hG.bk.co
    have BW : Hid (lo ≤ wr.heap.size) := Nat.le_trans HLO.out hG.fr.size
    clear hG H0 hksl
    by_cases hlt : k < N
    · have hlt' : k < ks.length := by have := HK.out; omega
      obtain ⟨r, cap, hv, hr, _, hcap, r0, r1, r2, rs⟩ := G1.out.bk.at hlt'
      injection hv with hv1 hv2 hv3
      clear hv2
      subst hv1 hv3
      have hkI : (k : Int) < (N : Int) := by omega
      have dk : decide (k < N) = true := by simp; omega
      have hlim := G1.out.lim _ (List.getElem_mem hlt')
      obtain ⟨xw, hown, hownb⟩ := G1.out.td k hlt' (Nat.le_refl _)
      have hb1 : Below wr.heap.size wr (wr.alloc (.cells #[ks[k].v, ks[k].vl, .int .i64 ks[k].m] 80)) := (Below.refl _ _).alloc (Nat.le_refl _) _
      have G2 := hide (G1.out.next hb1)
      have hsep := G1.out.sep
      have HBK := hide (fun (wi : World) (hf : Fr (fun b => ks[k].v.ownBlock = some b) _ wi) => (G2.out.bk.fr hf (hsep.g _ (List.getElem_mem hlt')) (fun b hb e => hsep.b _ (List.getElem_mem hlt') b e hb)))
      have HST := hide (fun (wi : World) (lv : Value) => G2.out.step (wi := wi) (lv := lv) HK.out hlt')
      have HM := hide (markBlob_any lo ks[k].m hlim.2.1)
      have HI : Hid (GInQ lo ks[k].m _ _ B ks[k].v ks[k].v ks[k].n 0) := ⟨⟨xw, ownR_below hown hb1, fun u hu => (hownb u hu).next hb1⟩, ownR_rdQ (ownR_below hown hb1) (fun u hu => (hownb u hu).next hb1), Fr.refl _ _, fun b hb => .inl hb⟩
      have hnc : ¬ ks[k].v.ownBlock = some wr.heap.size := fun e => by have := (World.ownsRow.lt hown _ e).2; omega
      have hsz := hb1.size
      have hBW : B ≤ wr.heap.size := by have := G1.out.bk.gB; have := G1.out.bk.lt; omega
      obtain ⟨e0, e1, e2⟩ := box3 wr ks[k].v ks[k].vl (.int .i64 ks[k].m) 80
      have HAT := hide (fun (w' : World) (hb : GB 80 5 w' B g (.slice (some ⟨r, 0, none⟩) N cv) ks) => hb.at hlt')
      have hsl := ownR_shape hown
      obtain ⟨hx1, hx2, hx3⟩ := hlim
      clear hb1 hsep hown hownb
      generalize hxk : ks[k] = x at *
      obtain ⟨v, vl, m, n⟩ := x
      simp only at *
      obtain ⟨a1, c1, hv1⟩ := hsl
      obtain ⟨al, nl, cl, hvl⟩ := hx3
      subst hv1 hvl
      generalize hW1 : wr.alloc (.cells #[.slice a1 n c1, .slice al nl cl, .int .i64 m] 80) = W1 at *
      have HW1 := hide hW1
      have HNC := hide hnc
      have HSZ := hide hsz
      have HZ : Hid (lo ≤ W1.heap.size ∧ B ≤ W1.heap.size) := ⟨by have := BW.out; have := HSZ.out; omega, by have := HSZ.out; omega⟩
      clear hW1 hxk hsz
      rw [Nat.mul_comm] at r0 r1 r2
      obtain ⟨go, hgo⟩ : ∃ go, go = gk := ⟨_, rfl⟩
      subst hgo
      clear hk
      go_wp2
      rw [HW1.out]
      clear HW1 G1 G2
      generalize wr.heap.size = c at *
      go_loopg [4, 5] 40 (fun gk lv j wi => ∃ q : Nat, q + gk = 40 ∧ j = .int .i64 q ∧ GInQ lo m W1 wi B (.slice a1 n c1) lv n q)
      case atStart => exact ⟨0, by omega, rfl, HI.out⟩
      case round =>
        obtain ⟨q, hq, rfl, hin⟩ := hrel
        have HIN := hide hin
        obtain ⟨xo, hxo, hxb⟩ := hin.ow
        obtain ⟨a2, c2', hv2⟩ := ownR_shape hxo
        subst hv2
        have f2 := hin.fr.cell e2 HNC.out
        have HQ := hide hq
        have B3 : Hid (lo ≤ wr.heap.size ∧ B ≤ wr.heap.size) := ⟨Nat.le_trans HZ.out.1 hin.fr.size, Nat.le_trans HZ.out.2 hin.fr.size⟩
        have HXO := hide hxo
        have HXB := hide hxb
        clear hxo hxb
        by_cases hqt : q < 40
        · have hqI : (q : Int) < 40 := by omega
          have dq : decide (q < 40) = true := by simp; omega
          clear hin e0 e1 e2 r0 r1 r2 c2 rs HST HBK HAT hnc hq
          generalize hnq : n + q = nq at *
          have HNQ := hide hnq
          clear hnq
          go_wp2_with (first
            | (go_at_call 116; refine (HM.out _ B3.out.1).mono ?_; rintro e w7 ⟨u, rfl, hu, hb7⟩; have I7 := hide (HIN.out.next hb7); have X7 := hide (ownR_below HXO.out hb7); have Y7 : Hid (∀ x ∈ xo, BM lo m w7 x) := (fun x hx => (HXB.out x hx).next hb7); have U7 := hide hu; obtain ⟨bu, cu, rfl, _⟩ := hu; have Z7 : Hid (B ≤ w7.heap.size) := Nat.le_trans B3.out.2 hb7.size; clear hb7)
            | (at_builtin; refine wpList_appC rfl _ _ 24 rfl 22 i0 _ 1 24 Tryz.underlying24 hi0 hz0 hz1 hz2 rfl (by decide) (by decide) B _ nq xo rfl (ownR_below X7.out ((Below.refl _ _).alloc (Nat.le_refl _) _)) _ [.slice (some ⟨bu, 0, none⟩) 1 cu] rfl rfl (cells_newC _ [.slice (some ⟨bu, 0, none⟩) 1 cu] _) (by intro u hu; simp at hu; subst hu; rfl) (by have := HNQ.out; omega) (by have := Z7.out; simp; omega) ?_; intro v8 w8 O8 D8; have I8 := hide ((I7.out.next ((Below.refl _ _).alloc (Nat.le_refl _) _)).step (by rw [HNQ.out]; exact ownR_below X7.out ((Below.refl _ _).alloc (Nat.le_refl _) _)) (fun x hx => (Y7.out x hx).next ((Below.refl _ _).alloc (Nat.le_refl _) _)) (U7.out.next ((Below.refl _ _).alloc (Nat.le_refl _) _)) (by rw [HNQ.out]; exact O8) D8); clear O8 D8))
          go_roundg (gk - 1)
          case measure => have := HQ.out; omega
          case rel => exact ⟨q + 1, by have := HQ.out; omega, by go_num, I8.out⟩
        · obtain rfl : q = 40 := by omega
          have dq : decide (40 < 40) = false := by simp
          have hB := HBK.out _ hin.fr
          obtain ⟨r', cap', hv', _, _, _, s0, s1, s2, ss⟩ := HAT.out _ hB
          injection hv' with hv1 hv2 hv3
          injection hv1 with hv1
          injection hv1 with hv1
          clear hv2
          subst hv1 hv3
          have c2n := hB.co
          rw [Nat.mul_comm] at s0 s1 s2
          have ssk := ss (k * 3 + 1)
          have R9 := hide (HST.out wr _ HIN.out)
          rw [Nat.mul_comm 3 k] at R9
          have HLE2 : Hid ((ks.set k ⟨.slice a1 n c1, .slice a2 (n + 40) c2', m, n⟩).length = N) := by show _ = _; rw [List.length_set]; exact HK.out
          clear hin e0 e1 e2 r0 r1 r2 c2 rs HST HBK HAT hnc hq hB ss
          generalize n + 40 = n4 at *
          go_wp2
          go_roundg (go - 1)
          case measure => have := HKG.out; omega
          case rel => exact ⟨k + 1, _, by have := HKG.out; omega, by go_num, HLE2.out, R9.out⟩
    · have dk : decide (k < N) = false := by simp; omega
      obtain rfl : k = N := by have := HKG.out; omega
      have hr : Hid (∃ ks : List Hc, ks.length = k ∧ GrQ W wr B g lo (.slice av k cv) hs ks ks.length) := ⟨ks, HK.out, by rw [HK.out]; exact G1.out⟩
      clear G1 HK hk HKG HN
      go_wp2
      go_end0
      exact ⟨rfl, hr.out⟩
end Go.Proofs.YtpgkohimcofjnaaGreatDoor
