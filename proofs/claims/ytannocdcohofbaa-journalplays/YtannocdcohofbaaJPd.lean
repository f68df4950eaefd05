/- A disk's journal and the document's, call by call, each as one step of a state. -/
import Derived.Test.YtannocdcohofbaaJRd
import Derived.Test.YtannocdcohofbaaDkQ
namespace Go.Proofs.Ytannocdcohofbaa
open Go.RowKit

def adS (room : Nat) (s : Ds) (ys : List Nat) : Int × Ds := if okR ys then apS room s (frm ys) else (1, s)
def opS (s : Ds) : Int × Ds := if s.off then (13, s) else (0, ⟨s.xs.take (used (rd s.xs)), false, s.st⟩)
def opR (s : Ds) : List (List Nat) := if s.off then [] else rd s.xs
theorem DTo.same {B g room : Nat} {v f : Value} {s : Ds} {W W' : World} (h : DC B g room v f s W) (hb : Below W.heap.size W W') (k : Int) : DTo B g room v f W (k, s) (.returned (.int .i64 k)) W' :=
  ⟨rfl, v, f, Dk.next h hb, Fr.ofBelow hb, fun _ hb => .inl hb⟩
theorem RTo.same {B g room : Nat} {v : Value} {s : Ds} {W W' : World} (h : RC B g room v s W) (hb : Below W.heap.size W W') (k : Int) : RTo B g room v W (k, s) (.returned (.int .i64 k)) W' :=
  ⟨rfl, v, Rk.next h hb, Fr.ofBelow hb, fun _ hb => .inl hb⟩
theorem d_add {B g room : Nat} {v f : Value} {s : Ds} {W : World} (h : DC B g room v f s W) (a : Option Addr) (cap : Nat) (ys : List Nat) (hy : ∀ y ∈ ys, y < 256) (hl : ys.length ≤ 140737488355328) (hr : RdA W a ys) : Calls Try.prog 19 #[.pointer (some ⟨g, 0, none⟩), .slice a ys.length cap] W (DTo B g room v f W (adS room s ys)) := by
  unfold adS
  by_cases hk : okR ys
  · rw [if_pos hk]
    refine (add_by a cap ys hy hk hr h (apS room s (frm ys)).1 (fun w1 w' => ∃ v' f', DC B g room v' f' (apS room s (frm ys)).2 w' ∧ Fr (DF g v f) w1 w' ∧ ∀ b, DF g v' f' b → DF g v f b ∨ w1.heap.size ≤ b) (fun w1 p cap' h1 h2 h3 => d_append h3 (some ⟨p, 0, none⟩) cap' (frm ys) h1 h2 (fun e => by cases e))).mono ?_
    rintro e w' ⟨rfl, w1, hb, v', f', h1, h2, h3⟩
    exact ⟨rfl, v', f', h1, (Fr.ofBelow hb).trans h2 (fun b _ e => e), fun b hb' => (h3 b hb').imp id (fun k => Nat.le_trans hb.size k)⟩
  · rw [if_neg hk]
    refine (add_no a ys.length cap (by omega) hk h).mono ?_
    rintro e w' ⟨rfl, rfl⟩
    exact DTo.same h (Below.refl _ _) 1
theorem r_add {B g room : Nat} {v : Value} {s : Ds} {W : World} (h : RC B g room v s W) (a : Option Addr) (cap : Nat) (ys : List Nat) (hy : ∀ y ∈ ys, y < 256) (hr : RdA W a ys) : Calls Try.prog 20 #[.pointer (some ⟨g, 0, none⟩), .slice a ys.length cap] W (RTo B g room v W (adS room s ys)) := by
  have e1 := ref_eql_no g
  unfold adS
  by_cases hk : okR ys
  · rw [if_pos hk]
    have HF := hide (rframe_yes a cap ys W hy hk hr)
    have HD := hide h
    clear h hk hy hr
    go_enter Try.func20, Try.ntmps20
    go_wp2_with fail
    refine HF.out.mono ?_
    rintro e w2 ⟨u, rfl, ho, hb⟩
    obtain ⟨au, cu, rfl, hlc, hnn, _⟩ := ho.shape
    have HA := hide (r_append (Rk.next HD.out hb) au cu (frm ys) ho.rd.2 hlc hnn)
    have HB := hide hb
    clear ho hb HF hlc hnn
    generalize apS room s (frm ys) = R at *
    obtain ⟨rc, s2⟩ := R
    go_wp2_with fail
    refine HA.out.mono ?_
    rintro e w3 ⟨rfl, v', h1, h2, h3⟩
    go_wp2
    go_ret
    exact ⟨rfl, v', h1, (Fr.ofBelow HB.out).trans h2 (fun b _ e => e), fun b hb' => (h3 b hb').imp id (fun k => Nat.le_trans HB.out.size k)⟩
  · rw [if_neg hk]
    have HF := hide (rframe_no a ys.length cap W hk)
    have HD := hide h
    clear h hk hy hr
    go_enter Try.func20, Try.ntmps20
    go_wp2_with fail
    refine HF.out.mono ?_
    rintro e w2 ⟨rfl, hw⟩
    subst hw
    go_wp2
    go_ret
    exact RTo.same HD.out (Below.refl _ _) 1
/- A list of records that can be read, as a call answers it. -/
def Ans (W : World) (B : Nat) (u : Value) (rs : List (List Nat)) : Prop := ∃ us, Recs W B u us rs
theorem Ans.nil (W : World) (B : Nat) : Ans W B (.slice none 0 0) [] := ⟨[], Recs.nil W B⟩
theorem d_open {B g room : Nat} {v f : Value} {s : Ds} {W : World} (h : DC B g room v f s W) (hx : ∀ y ∈ s.xs, y < 256) : Calls Try.prog 10 #[.pointer (some ⟨g, 0, none⟩)] W fun e W' => ∃ u v' f', e = .returned (.tuple #[u, .int .i64 (opS s).1]) ∧ Ans W' W.heap.size u (opR s) ∧ DC B g room v' f' (opS s).2 W' ∧ Fr (DF g v f) W W' ∧ ∀ b, DF g v' f' b → DF g v f b ∨ W.heap.size ≤ b := by
  obtain ⟨xs, off, st⟩ := s
  cases off with
  | true =>
    refine (open_off hx h).mono ?_
    rintro e w' ⟨rfl, hb⟩
    exact ⟨_, v, f, rfl, Ans.nil _ _, Dk.next h hb, Fr.ofBelow hb, fun b hb => .inl hb⟩
  | false =>
    refine (open_yes hx h).mono ?_
    rintro e w' ⟨u, us, v', rfl, hrc, hd, hm⟩
    refine ⟨u, v', f, rfl, ⟨us, hrc⟩, hd, fr_df hm.fr, fun b hb => ?_⟩
    rcases hb with hb | hb
    · exact (de_mv hm b hb).imp .inl id
    · exact .inl (.inr hb)
theorem r_open {B g room : Nat} {v : Value} {s : Ds} {W : World} (h : RC B g room v s W) (hx : ∀ y ∈ s.xs, y < 256) : Calls Try.prog 11 #[.pointer (some ⟨g, 0, none⟩)] W fun e W' => ∃ u v', e = .returned (.tuple #[u, .int .i64 (opS s).1]) ∧ Ans W' W.heap.size u (opR s) ∧ RC B g room v' (opS s).2 W' ∧ Fr (DE g v) W W' ∧ ∀ b, DE g v' b → DE g v b ∨ W.heap.size ≤ b := by
  have e1 := ref_eql_no g
  obtain ⟨xs, off, st⟩ := s
  have HD := hide h
  have c2 := h.c2
  cases off with
  | true =>
    clear h
    go_enter Try.func11, Try.ntmps11
    go_wp2
    go_ret2
    exact ⟨_, rfl, Ans.nil _ _, v, HD.out, Fr.refl _ _, fun _ hb => .inl hb⟩
  | false =>
    have HB := hide (rbytes_yes h)
    have hlr : xs.length ≤ 16777216 := Nat.le_trans h.le h.r1
    have hus := rd_used _ xs (Nat.le_refl _)
    clear h
    go_enter Try.func11, Try.ntmps11
    go_wp2_with fail
    refine HB.out.mono ?_
    rintro e w1 ⟨u, rfl, ho, hb⟩
    obtain ⟨a, cap, rfl, hlc, hnn, _⟩ := ho.shape
    have HR := hide (rread_yes a cap xs w1 hx (by omega) hlc ho.rd.2)
    have B1 := hide hb
    clear ho hb hnn hlc HB
    go_wp2_with fail
    refine HR.out.mono ?_
    rintro e w2 ⟨v2, vs2, rfl, hrc, hb⟩
    have hb2 := B1.out.trans (hb.mono B1.out.size)
    have HT := hide (rtrim_yes (n := used (rd xs)) hus (Rk.next HD.out hb2))
    obtain ⟨a2, c2', rfl⟩ := hrc.own.sl
    have RCC := hide (hrc.lower B1.out.size)
    have B2 := hide hb2
    have HG := hide (fun b (k : DE g v b) => (show b < W.heap.size by
      rcases k with k | k
      · rw [k]; exact Rk.lt HD.out
      · exact (Rk.vlt HD.out b k).2))
    clear hrc hb hb2 HR
    obtain ⟨U, hU⟩ : ∃ U, U = used (rd xs) := ⟨_, rfl⟩
    rw [← hU] at HT ⊢
    have HU := hide hU
    clear hU
    go_wp2_with fail
    refine HT.out.mono ?_
    rintro e w3 ⟨rfl, v', hd, hm⟩
    rw [HU.out] at hd
    go_wp2
    go_ret2
    exact ⟨_, v', rfl, ⟨vs2, RCC.out.same (fun b h1 h2 => hm.fr.block b h2 (fun k => by have := HG.out b k; omega))⟩, hd, (Fr.ofBelow B2.out).trans hm.fr (fun b _ e => e), fun b hb => (de_mv hm b hb).imp id (fun k => Nat.le_trans B2.out.size k)⟩
end Go.Proofs.Ytannocdcohofbaa
