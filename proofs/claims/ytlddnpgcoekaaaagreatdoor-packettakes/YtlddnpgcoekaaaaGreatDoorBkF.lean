/- fillByte of a Book. -/
import Derived.Test.YtlddnpgcoekaaaaGreatDoorBkM
import Derived.RegionTactic
import Derived.Deep.LoopGhost
namespace Go.Proofs.YtlddnpgcoekaaaaGreatDoor
open Go.RowKit

def mk8 (n : Nat) : Nat := 1 + n % 250
theorem mk8_mod (n : Nat) : ((mk8 n : Nat) : Int) % 256 = ((mk8 n : Nat) : Int) := by unfold mk8; omega
theorem mark_any (n : Nat) (hn : n < 1000000000) (w : World) : Calls Tryz.prog 123 #[.int .i64 n] w fun e w' => e = .returned (.int .u8 (mk8 n : Nat)) ∧ w' = w := by
  have h1 : (n : Int).tmod 250 = ((n % 250 : Nat) : Int) := by rw [Int.tmod_eq_emod_of_nonneg (by omega)]; omega
  have h2 : IntKind.i64.wrap (1 + ((n % 250 : Nat) : Int)) = ((1 + n % 250 : Nat) : Int) := by rw [IntKind.wrap_i64]; omega
  have h3 := mk8_mod n
  have h4 : ((1 + n % 250 : Nat) : Int) = (mk8 n : Int) := rfl
  generalize n % 250 = r at *
  go_enter Tryz.func123, Tryz.ntmps123
  go_wp2
  go_ret
  exact ⟨rfl, rfl⟩
theorem is_yes (n : Nat) (hn : n < 1000000000) (w : World) : Calls Tryz.prog 153 #[.int .u8 (mk8 n : Nat), .int .i64 n] w fun e w' => e = .returned (.bool true) ∧ w' = w := by
  have h1 : (n : Int).tmod 250 = ((n % 250 : Nat) : Int) := by rw [Int.tmod_eq_emod_of_nonneg (by omega)]; omega
  have h2 : IntKind.i64.wrap (1 + ((n % 250 : Nat) : Int)) = ((1 + n % 250 : Nat) : Int) := by rw [IntKind.wrap_i64]; omega
  have h3 := mk8_mod n
  have h4 : ((1 + n % 250 : Nat) : Int) = (mk8 n : Int) := rfl
  generalize n % 250 = r at *
  go_enter Tryz.func153, Tryz.ntmps153
  go_wp2
  go_ret
  exact ⟨by simp, rfl⟩
theorem fill_set (q m : Nat) (xs : List Nat) (h : q < xs.length) : (List.replicate q m ++ xs.drop q).set q m = List.replicate (q + 1) m ++ xs.drop (q + 1) := by
  rw [List.set_append_right _ _ (by simp), List.length_replicate, Nat.sub_self, List.drop_eq_getElem_cons h, List.set_cons_zero, List.replicate_succ', List.append_assoc]
  rfl
def LE (hs : List Hb) (b : Nat) : Prop := ∃ x ∈ hs, x.v.ownBlock = some b
/- What holds of the lists while they are being filled. -/
structure Fl (W wr : World) (B g : Nat) (vb : Value) (n : Nat) (hs : List Hb) (k : Nat) : Prop where
  bk : Bk wr B g vb n hs
  ow : ∀ j (hj : j < hs.length), Own8 wr B hs[j].v (if j < k then List.replicate hs[j].xs.length (mk8 hs[j].m) else hs[j].xs)
  fr : Fr (LE hs) W wr
theorem Sep.nE {g : Nat} {vb : Value} {hs : List Hb} (s : Sep g vb hs) : ¬ LE hs g ∧ ∀ b, vb.ownBlock = some b → ¬ LE hs b := by
  constructor
  · rintro ⟨x, hx, e⟩; exact s.g x hx e
  · rintro b hb ⟨x, hx, e⟩; exact s.b x hx b e hb
theorem Fl.next {W wr w' : World} {B g n k : Nat} {vb : Value} {hs : List Hb} (h : Fl W wr B g vb n hs k) (hb : Below wr.heap.size wr w') : Fl W w' B g vb n hs k :=
  ⟨h.bk.next hb, fun j hj => (h.ow j hj).below hb, h.fr.trans (E' := fun _ => False) (Fr.ofBelow hb) (fun _ _ e => e.elim)⟩
/- The k-th list was filled. -/
theorem Fl.step {W wr w' : World} {B g n k : Nat} {vb : Value} {hs : List Hb} (h : Fl W wr B g vb n hs k) (s : Sep g vb hs) (hk : k < hs.length) (hf : Fr (fun b => hs[k].v.ownBlock = some b) wr w') (ho : Own8 w' B hs[k].v (List.replicate hs[k].xs.length (mk8 hs[k].m))) : Fl W w' B g vb n hs (k + 1) := by
  refine ⟨h.bk.fr hf (s.g _ (List.getElem_mem hk)) (fun b hb e => s.b _ (List.getElem_mem hk) b e hb), fun j hj => ?_, h.fr.trans hf (fun b _ e => ⟨_, List.getElem_mem hk, e⟩)⟩
  by_cases e : j = k
  · subst e; rw [if_pos (by omega)]; exact ho
  · have h1 := (h.ow j hj).fr hf (fun b hb e' => s.p j k hj hk e b hb e')
    by_cases e2 : j < k
    · rw [if_pos (by omega)]; rw [if_pos e2] at h1; exact h1
    · rw [if_neg (by omega)]; rw [if_neg e2] at h1; exact h1
structure FlIn (W1 wi : World) (B : Nat) (v : Value) (xs : List Nat) (m q : Nat) : Prop where
  ow : Own8 wi B v (List.replicate q (mk8 m) ++ xs.drop q)
  fr : Fr (fun b => v.ownBlock = some b) W1 wi
theorem own_cell8 {W : World} {B g n cap : Nat} {xs : List Nat} (h : Own8 W B (.slice (some ⟨g, 0, none⟩) n cap) xs) (k : Nat) (hk : k < xs.length) : W.cell? ⟨g, k, none⟩ = some (.int .u8 (xs[k] : Nat)) := by
  obtain ⟨p, off, e, _, hc⟩ := h.rd.2.some (by omega)
  injection e with e
  injection e with e1 e2
  subst e1 e2
  have := hc k hk
  rwa [Nat.zero_add] at this
theorem box3 (W : World) (a b c : Value) (t : TypeId) : (W.alloc (.cells #[a, b, c] t)).cell? ⟨W.heap.size, 0, none⟩ = some a ∧ (W.alloc (.cells #[a, b, c] t)).cell? ⟨W.heap.size, 1, none⟩ = some b ∧ (W.alloc (.cells #[a, b, c] t)).cell? ⟨W.heap.size, 2, none⟩ = some c := by
  have h : (W.alloc (.cells #[a, b, c] t)).heap[W.heap.size]? = some (.cells #[a, b, c] t (0, 0)) := heap_alloc_new W _
  unfold World.cell?; simp only [h]; exact ⟨rfl, rfl, rfl⟩
set_option maxRecDepth 100000 in
set_option maxHeartbeats 2000000 in
theorem fillByte_any {W : World} {B g n : Nat} {vb : Value} {hs : List Hb} (h : Fl W W B g vb n hs 0) (s : Sep g vb hs) (hl : ∀ x ∈ hs, x.xs.length ≤ 100000000 ∧ x.m < 1000000000 ∧ ∃ a n c, x.vl = .slice a n c) (hn : hs.length ≤ 1000000) :
    Calls Tryz.prog 28 #[.pointer (some ⟨g, 0, none⟩)] W fun e W' => e = .returned (.tuple #[]) ∧ Fl W W' B g vb n hs hs.length := by
  have HS := hide s
  have HL := hide hl
  have H0 := hide h
  obtain ⟨av, nv, cv, hv⟩ : ∃ a n' c, vb = .slice a n' c := by
    rcases h.bk.row.2 with ⟨e, _⟩ | ⟨r, cap, cur, e, _⟩ <;> exact ⟨_, _, _, e⟩
  have hnv : nv = hs.length := by
    rcases h.bk.row.2 with ⟨e, e2⟩ | ⟨r, cap, cur, e, _⟩
    · rw [hv] at e; cases e; exact e2.symm
    · rw [hv] at e; cases e; rfl
  subst hv hnv
  clear s hl h
  go_enter Tryz.func28, Tryz.ntmps28
  go_wp2
  go_loopw [2] (fun i wr => ∃ k : Nat, k ≤ hs.length ∧ i = .int .i64 k ∧ Fl W wr B g (.slice av hs.length cv) n hs k) (fun i _ => hs.length - (intOf i).toNat)
  case atStart => exact ⟨0, Nat.zero_le _, rfl, H0.out⟩
  case round =>
    obtain ⟨k, hk, rfl, hF⟩ := hrel
    have F1 := hide hF
    have c2 := hF.bk.c2
    clear hF H0
    by_cases hlt : k < hs.length
    · obtain ⟨r, cap, hv, hr, _, hcap, r0, r1, r2, rs⟩ := F1.out.bk.at hlt
      injection hv with hv1 _ hv3
      subst hv1 hv3
      have hkI : (k : Int) < (hs.length : Int) := by omega
      have dk : decide (k < hs.length) = true := by simp; omega
      have hb1 : Below wr.heap.size wr (wr.alloc (.cells #[hs[k].v, hs[k].vl, .int .i64 hs[k].m] 95)) := (Below.refl _ _).alloc (Nat.le_refl _) _
      have F2 := hide (F1.out.next hb1)
      have hm := (HL.out _ (List.getElem_mem hlt))
      have HO := hide (F2.out.ow k hlt)
      have HM := hide (fun W => mark_any hs[k].m hm.2.1 W)
      have HST := hide (fun (w' : World) => F2.out.step (w' := w') HS.out hlt)
      have hold := F1.out.ow k hlt
      have ho := HO.out
      rw [if_neg (Nat.lt_irrefl k)] at ho hold
      obtain ⟨e0, e1, e2⟩ := box3 wr hs[k].v hs[k].vl (.int .i64 hs[k].m) 95
      clear HO c2 hb1 HL HS
      generalize hs[k] = x at *
      obtain ⟨v, vl, m, xs⟩ := x
      simp only at *
      obtain ⟨hm1, hm2, al, nl, cl, hvl⟩ := hm
      subst hvl
      obtain ⟨a1, c1, hv1, hlc1, hn1, hq1⟩ := ho.shape
      subst hv1
      have hnc : ¬ (Value.slice a1 xs.length c1).ownBlock = some wr.heap.size := fun e => by have := (World.ownsRow.lt hold _ e).2; omega
      have HO := hide ho
      generalize hW1 : wr.alloc (.cells #[.slice a1 xs.length c1, .slice al nl cl, .int .i64 m] 95) = W1 at *
      have HW1 := hide hW1
      have c2 := F1.out.bk.c2
      clear ho hold hW1
      rw [Nat.mul_comm] at r0 r1 r2
      go_wp2
      rw [HW1.out]
      clear HW1
      generalize wr.heap.size = c at *
      go_loopg [4] xs.length (fun gk j wi => ∃ q : Nat, q + gk = xs.length ∧ j = .int .i64 q ∧ FlIn W1 wi B (.slice a1 xs.length c1) xs m q)
      case atStart => exact ⟨0, by omega, rfl, ⟨HO.out, Fr.refl _ _⟩⟩
      case round =>
        obtain ⟨q, hq, rfl, hin⟩ := hrel
        have ho := hin.ow
        have hf := hin.fr
        have f0 := hf.cell e0 hnc
        have f2 := hf.cell e2 hnc
        have O2 := hide ho
        have F3 := hide hf
        by_cases hqt : q < xs.length
        · obtain ⟨b, cb, hvb, hb1, _, hb3, hb4⟩ := Own8.some8 ho (by simp; omega)
          injection hvb with e3 e4 e5
          clear e4
          subst e3 e5
          have hqI : (q : Int) < (xs.length : Int) := by omega
          have dq : decide (q < xs.length) = true := by simp; omega
          have hcq := own_cell8 ho q (by simp; omega)
          have hsq := Own8.soft ho q
          have HF := hide (fill_set q (mk8 m) xs hqt)
          generalize (List.replicate q (mk8 m) ++ xs.drop q)[q]'(by simp; omega) = y at hcq
          have HNC := hide hnc
          clear hin ho hf e0 e1 e2 r0 r1 r2 c2 rs HST HO hq1 hn1 hnc hb1 hb4
          go_wp2
          go_region_with (go_at_call 123; refine (HM.out _).mono ?_; rintro e w7 ⟨rfl, hw⟩; subst hw)
          all_goals
            go_wp2
            go_roundg (gk - 1)
            case measure => omega
            case rel =>
              refine ⟨q + 1, by omega, by go_num, ⟨?_, ?_⟩⟩
              · rw [← HF.out]; exact Own8.set (W := wr.drew) O2.out q (mk8 m)
              · exact F3.out.drew.set _ _ rfl
        · obtain rfl : q = xs.length := by omega
          have dq : decide (xs.length < xs.length) = false := by simp
          have R5 := hide (HST.out wr F3.out (by have := O2.out; rw [List.drop_length, List.append_nil] at this; exact this))
          clear hin ho hf e0 e1 e2 r0 r1 r2 c2 rs HST HO hq1 hn1 hnc O2 F3
          go_wp2
          exact ⟨⟨k + 1, by omega, by go_num, R5.out⟩, by simp [intOf]; omega⟩
    · have dk : decide (k < hs.length) = false := by simp; omega
      obtain rfl : k = hs.length := by omega
      go_wp2
      go_end0
      exact ⟨rfl, F1.out⟩
end Go.Proofs.YtlddnpgcoekaaaaGreatDoor
