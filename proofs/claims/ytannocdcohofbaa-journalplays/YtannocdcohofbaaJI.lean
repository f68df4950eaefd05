/- package journal: Add, Open. -/
import Derived.Test.YtannocdcohofbaaJH
import Derived.Test.YtannocdcohofbaaDkE
namespace Go.Proofs.Ytannocdcohofbaa
open Go.RowKit

theorem jthere_yes {B g room : Nat} {v f : Value} {xs : List Nat} {off : Bool} {st : Option Nat} {w : World} (h : Dk w B g v room xs off f st) : Calls Try.prog 37 #[.pointer (some ⟨g, 0, none⟩)] w fun e w' => e = .returned (.bool true) ∧ w' = w := by
  have HT : Hid (∃ k : Int, (k = 1 ∨ k = 13) ∧ Calls Try.prog 30 #[.pointer (some ⟨g, 0, none⟩), .int .i64 (-1)] w fun e w' => e = .returned (.int .i64 k) ∧ w' = w) := by
    cases off with
    | true => exact ⟨13, .inr rfl, trim_off (-1) h⟩
    | false => exact ⟨1, .inl rfl, trim_no (-1) (.inl (by omega)) h⟩
  obtain ⟨k, hk, HK⟩ := HT.out
  have HK := hide HK
  clear HT h
  rcases hk with rfl | rfl
  all_goals
    go_enter Try.func37, Try.ntmps37
    go_wp2_with fail
    refine HK.out.mono ?_
    rintro e w1 ⟨rfl, rfl⟩
    go_wp2
    go_ret
    exact ⟨rfl, rfl⟩
theorem jthere_not (a : Option Addr) (w : World) (h : NoDk w a) : Calls Try.prog 37 #[.pointer a] w fun e w' => e = .returned (.bool false) ∧ w' = w := by
  have HK := hide (trim_not a (-1) w h)
  clear h
  go_enter Try.func37, Try.ntmps37
  go_wp2_with fail
  refine HK.out.mono ?_
  rintro e w1 ⟨rfl, rfl⟩
  go_wp2
  go_ret
  exact ⟨rfl, rfl⟩
theorem add_not (a : Option Addr) (b : Value) (w : World) (h : NoDk w a) : Calls Try.prog 19 #[.pointer a, b] w fun e w' => e = .returned (.int .i64 2) ∧ w' = w := by
  have HK := hide (jthere_not a w h)
  clear h
  go_enter Try.func19, Try.ntmps19
  go_wp2_with fail
  refine HK.out.mono ?_
  rintro e w1 ⟨rfl, rfl⟩
  go_wp2
  go_ret
  exact ⟨rfl, rfl⟩
theorem add_no {B g room : Nat} {v f : Value} {xs : List Nat} {off : Bool} {st : Option Nat} {w : World} (a : Option Addr) (n cap : Nat) (hn : n ≤ 9223372036854775807) (hk : ¬ (1 ≤ n ∧ n ≤ 65537)) (h : Dk w B g v room xs off f st) : Calls Try.prog 19 #[.pointer (some ⟨g, 0, none⟩), .slice a n cap] w fun e w' => e = .returned (.int .i64 1) ∧ w' = w := by
  have HK := hide (jthere_yes h)
  have HF := hide (frame_no a n cap w hk hn)
  clear h hk hn
  go_enter Try.func19, Try.ntmps19
  go_wp2_with fail
  refine HK.out.mono ?_
  rintro e w1 ⟨rfl, hw⟩
  subst hw
  go_wp2_with fail
  refine HF.out.mono ?_
  rintro e w1 ⟨rfl, rfl⟩
  go_wp2
  go_ret
  exact ⟨rfl, rfl⟩
/- What Add does, by what Append does with the frame. -/
theorem add_by {B g room : Nat} {v f : Value} {xs : List Nat} {off : Bool} {st : Option Nat} {w : World} (a : Option Addr) (cap : Nat) (ys : List Nat) (hy : ∀ y ∈ ys, y < 256) (hk : okR ys) (hr : RdA w a ys) (h : Dk w B g v room xs off f st) (k : Int) (R : World → World → Prop)
    (hA : ∀ (w1 : World) (p cap' : Nat), RdA w1 (some ⟨p, 0, none⟩) (frm ys) → (frm ys).length ≤ cap' → Dk w1 B g v room xs off f st → Calls Try.prog 17 #[.pointer (some ⟨g, 0, none⟩), .slice (some ⟨p, 0, none⟩) (frm ys).length cap'] w1 fun e w' => e = .returned (.int .i64 k) ∧ R w1 w') :
    Calls Try.prog 19 #[.pointer (some ⟨g, 0, none⟩), .slice a ys.length cap] w fun e w' => e = .returned (.int .i64 k) ∧ ∃ w1, Below w.heap.size w w1 ∧ R w1 w' := by
  have HK := hide (jthere_yes h)
  have HF := hide (frame_yes a cap ys w hy hk hr)
  have HA := hide hA
  have HD := hide h
  clear h hk hy hr hA
  go_enter Try.func19, Try.ntmps19
  go_wp2_with fail
  refine HK.out.mono ?_
  rintro e w1 ⟨rfl, hw⟩
  subst hw
  go_wp2_with fail
  refine HF.out.mono ?_
  rintro e w2 ⟨p, rfl, ho, hb⟩
  have HAA := hide (HA.out w2 p _ ho.rd.2 (Nat.le_refl _) (HD.out.next hb))
  have HB := hide hb
  clear ho hb HF HK HA
  generalize (frm ys).length = N at *
  go_wp2_with fail
  refine HAA.out.mono ?_
  rintro e w3 ⟨rfl, hR⟩
  go_wp2
  go_ret
  exact ⟨rfl, w2, HB.out, hR⟩
theorem add_yes {B g room : Nat} {v f : Value} {xs : List Nat} {w : World} (a : Option Addr) (cap : Nat) (ys : List Nat) (hy : ∀ y ∈ ys, y < 256) (hk : okR ys) (hr : RdA w a ys) (hf : xs.length + (frm ys).length ≤ room) (h : Dk w B g v room xs false f none) :
    Calls Try.prog 19 #[.pointer (some ⟨g, 0, none⟩), .slice a ys.length cap] w fun e w' => e = .returned (.int .i64 0) ∧ ∃ v', Dk w' B g v' room (xs ++ frm ys) false f none ∧ Mv g v v' w w' := by
  refine (add_by a cap ys hy hk hr h 0 (fun w1 w' => ∃ v', Dk w' B g v' room (xs ++ frm ys) false f none ∧ Mv g v v' w1 w') (fun w1 p cap' h1 h2 h3 => append_yes (some ⟨p, 0, none⟩) cap' (frm ys) h1 (fun e => by cases e) hf h3)).mono ?_
  rintro e w' ⟨rfl, w1, hb, v', h1, h2⟩
  exact ⟨rfl, v', h1, (Mv.ofBelow hb).trans h2⟩
theorem add_cut {B g room n : Nat} {v f : Value} {xs : List Nat} {w : World} (a : Option Addr) (cap : Nat) (ys : List Nat) (hy : ∀ y ∈ ys, y < 256) (hk : okR ys) (hr : RdA w a ys) (hf : xs.length + (frm ys).length ≤ room) (h : Dk w B g v room xs false f (some n)) :
    Calls Try.prog 19 #[.pointer (some ⟨g, 0, none⟩), .slice a ys.length cap] w fun e w' => e = .returned (.int .i64 13) ∧ ∃ v', Dk w' B g v' room (xs ++ (frm ys).take n) true .nilFunc none ∧ Mv g v v' w w' := by
  refine (add_by a cap ys hy hk hr h 13 (fun w1 w' => ∃ v', Dk w' B g v' room (xs ++ (frm ys).take n) true .nilFunc none ∧ Mv g v v' w1 w') (fun w1 p cap' h1 h2 h3 => append_cut (some ⟨p, 0, none⟩) cap' (frm ys) h1 h2 (fun e => by cases e) hf h3)).mono ?_
  rintro e w' ⟨rfl, w1, hb, v', h1, h2⟩
  exact ⟨rfl, v', h1, (Mv.ofBelow hb).trans h2⟩
theorem Recs.same {W W' : World} {B : Nat} {v : Value} {vs : List Value} {rs : List (List Nat)} (h : Recs W B v vs rs) (hs : ∀ b, B ≤ b → b < W.heap.size → W'.heap[b]? = W.heap[b]?) : Recs W' B v vs rs := by
  have key : ∀ {n : Nat} {e : TypeId} {u : Value} {us : List Value}, W.ownsRow B e 1 u n us → W'.ownsRow B e 1 u n us := by
    intro n e u us k
    refine ⟨k.1, ?_⟩
    rcases k.2 with k0 | ⟨gr, cap, cur, rfl, hg, hcur, rest⟩
    · exact .inl k0
    · exact .inr ⟨gr, cap, cur, rfl, hg, (hs gr hg (Array.getElem?_eq_some_iff.1 hcur).1).trans hcur, rest⟩
  exact ⟨key h.own, h.len, fun i h1 h2 => key (h.rec' i h1 h2), h.far, h.dis⟩
/- What Open begins with: the disk's bytes, read. -/
theorem open_yes {B g room : Nat} {v f : Value} {xs : List Nat} {st : Option Nat} {w : World} (hx : ∀ y ∈ xs, y < 256) (h : Dk w B g v room xs false f st) :
    Calls Try.prog 10 #[.pointer (some ⟨g, 0, none⟩)] w fun e w' => ∃ u us v', e = .returned (.tuple #[u, .int .i64 0]) ∧ Recs w' w.heap.size u us (rd xs) ∧ Dk w' B g v' room (xs.take (used (rd xs))) false f st ∧ Mv g v v' w w' := by
  have HK := hide (bytes_yes h)
  have HD := hide h
  have hlr : xs.length ≤ 16777216 := Nat.le_trans h.le h.r1
  have hus := rd_used _ xs (Nat.le_refl _)
  clear h
  go_enter Try.func10, Try.ntmps10
  go_wp2_with fail
  refine HK.out.mono ?_
  rintro e w1 ⟨u, rfl, ho, hb⟩
  obtain ⟨a, cap, rfl, hlc, hnn, _⟩ := ho.shape
  have HR := hide (read_yes a cap xs w1 hx (by omega) hlc ho.rd.2)
  have B1 := hide hb
  clear ho hb hnn hlc HK
  go_wp2_with fail
  refine HR.out.mono ?_
  rintro e w2 ⟨v2, vs2, rfl, hrc, hb⟩
  have hb2 := B1.out.trans (hb.mono B1.out.size)
  have HT := hide (trim_yes (n := used (rd xs)) hus (HD.out.next hb2))
  obtain ⟨a2, c2, rfl⟩ := hrc.own.sl
  have RC := hide (hrc.lower B1.out.size)
  have B2 := hide hb2
  have HG := hide (fun b (k : DE g v b) => (show b < w.heap.size by
    rcases k with k | k
    · rw [k]; exact HD.out.lt
    · exact (HD.out.vlt b k).2))
  clear hrc hb hb2 HR
  obtain ⟨U, hU⟩ : ∃ U, U = used (rd xs) := ⟨_, rfl⟩
  rw [← hU] at HT ⊢
  have HU := hide hU
  clear hU
  go_wp2_with fail
  refine HT.out.mono ?_
  rintro e w3 ⟨rfl, v', hd, hm⟩
  rw [HU.out] at hd
  go_wp2
  go_ret2
  refine ⟨_, vs2, v', rfl, RC.out.same (fun b h1 h2 => hm.fr.block b h2 (fun k => by have := HG.out b k; omega)), hd, (Mv.ofBelow B2.out).trans hm⟩
theorem open_off {B g room : Nat} {v f : Value} {xs : List Nat} {st : Option Nat} {w : World} (hx : ∀ y ∈ xs, y < 256) (h : Dk w B g v room xs true f st) :
    Calls Try.prog 10 #[.pointer (some ⟨g, 0, none⟩)] w fun e w' => e = .returned (.tuple #[.slice none 0 0, .int .i64 13]) ∧ Below w.heap.size w w' := by
  have HK := hide (bytes_yes h)
  have HD := hide h
  have hlr : xs.length ≤ 16777216 := Nat.le_trans h.le h.r1
  clear h
  go_enter Try.func10, Try.ntmps10
  go_wp2_with fail
  refine HK.out.mono ?_
  rintro e w1 ⟨u, rfl, ho, hb⟩
  obtain ⟨a, cap, rfl, hlc, hnn, _⟩ := ho.shape
  have HR := hide (read_yes a cap xs w1 hx (by omega) hlc ho.rd.2)
  have B1 := hide hb
  clear ho hb hnn hlc HK
  go_wp2_with fail
  refine HR.out.mono ?_
  rintro e w2 ⟨v2, vs2, rfl, hrc, hb⟩
  have hb2 := B1.out.trans (hb.mono B1.out.size)
  have HT := hide (trim_off (used (rd xs) : Nat) (HD.out.next hb2))
  obtain ⟨a2, c2, rfl⟩ := hrc.own.sl
  have B2 := hide hb2
  clear hrc hb hb2 HR
  generalize used (rd xs) = U at *
  go_wp2_with fail
  refine HT.out.mono ?_
  rintro e w3 ⟨rfl, rfl⟩
  go_wp2
  go_ret2
  exact ⟨rfl, B2.out⟩
end Go.Proofs.Ytannocdcohofbaa
