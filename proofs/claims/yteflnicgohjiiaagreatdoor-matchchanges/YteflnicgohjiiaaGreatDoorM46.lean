/- Pieces of the proof: MdH, MdI. -/
import Derived.Test.YteflnicgohjiiaaGreatDoorM45
import Derived.Test.YteflnicgohjiiaaGreatDoorM44
/- The document's own Insert and Modify (chapter 13), each with one answer for all cases. -/
namespace Go.Proofs.YteflnicgohjiiaaGreatDoor
open Go.RowKit

theorem rdE_zero (W : World) : RdE W none [] := ⟨.inl rfl, fun x hx => absurd hx (by simp)⟩
theorem rdE_no {W : World} {l : List EnL} (h : RdE W none l) : l = [] := by
  rcases h.rd with h | ⟨p, off, e, _⟩
  · exact h
  · cases e
theorem chk_zero {t : Tb} {e : En} (h : chkB t e = true) : chkI t e = 0 := by unfold chkI; rw [h]; rfl
theorem chk_one {t : Tb} {e : En} (h : chkB t e = false) : chkI t e = 1 := by unfold chkI; rw [h]; rfl
theorem refInsert13_any (x : TbL) (a : Option Addr) (cap : Nat) (l : List EnL) (y : EnL) (w : World) (hx : TbR w x) (hl : RdE w a l) (hz : a = none → cap = 0) (hy : EnR w y) (hn : l.length ≤ 900000) :
    Calls Tryz.prog 11 #[x.val, .slice a l.length cap, y.val] w fun e w' => ∃ a' cap' acc, e = .returned (.tuple #[.slice a' acc.length cap', .int .i64 (insI x.t (ens l) y.e)]) ∧ ens acc = (if insI x.t (ens l) y.e = 0 then ens l ++ [y.e] else []) ∧ RdE w' a' acc ∧ Below w.heap.size w w' := by
  have HK : Hid (∀ W, Below w.heap.size w W → _) := fun W hb => refCheck13_any x y W (hx.below hb) (hy.below hb)
  have HA : Hid (∀ W, Below w.heap.size w W → _) := fun W hb => refAt13_any a cap l y W (hl.below hb) (hy.below hb) (by omega)
  have no : ∀ c : Int, c ≠ 0 → insI x.t (ens l) y.e = c → (Calls Tryz.prog 11 #[x.val, .slice a l.length cap, y.val] w fun e w' => e = .returned (.tuple #[.slice none 0 0, .int .i64 c]) ∧ Below w.heap.size w w') → Calls Tryz.prog 11 #[x.val, .slice a l.length cap, y.val] w fun e w' => ∃ a' cap' acc, e = .returned (.tuple #[.slice a' acc.length cap', .int .i64 (insI x.t (ens l) y.e)]) ∧ ens acc = (if insI x.t (ens l) y.e = 0 then ens l ++ [y.e] else []) ∧ RdE w' a' acc ∧ Below w.heap.size w w' := fun c h0 hc h => by
    refine h.mono ?_
    rintro e w' ⟨rfl, h2⟩
    exact ⟨none, 0, [], by rw [hc]; rfl, by rw [hc, if_neg h0]; rfl, rdE_zero _, h2⟩
  cases hb : chkB x.t y.e
  · rw [chk_one hb] at HK
    exact no 1 (by decide) (by unfold insI; rw [hb]; rfl) (refInsert_a x a cap _ y w HK)
  · rw [chk_zero hb] at HK
    by_cases hh : 0 ≤ hereI (ens l) y.e
    · exact no 12 (by decide) (by unfold insI; rw [hb, if_pos rfl, if_pos hh]) (refInsert_b x a cap _ y w _ hh HK HA)
    · by_cases hs : x.t.size ≤ (l.length : Int)
      · exact no 10 (by decide) (by unfold insI; rw [hb, if_pos rfl, if_neg hh, if_pos (by rw [ens_len]; exact hs)]) (refInsert_c x a cap _ y w _ hh hs HK HA)
      · have e0 : insI x.t (ens l) y.e = 0 := by unfold insI; rw [hb, if_pos rfl, if_neg hh, if_neg (by rw [ens_len]; exact hs)]
        rw [e0, if_pos rfl]
        cases a with
        | none =>
          obtain rfl := rdE_no hl
          obtain rfl := hz rfl
          refine (refInsert_nil x y w hy _ hh hs HK HA).mono ?_
          rintro e w' ⟨a', cap', acc, rfl, rfl, h3, h4⟩
          exact ⟨a', cap', _, rfl, rfl, h3, h4⟩
        | some q =>
          refine (refInsert_yes x q cap l y w hl hy hn _ hh hs HK HA).mono ?_
          rintro e w' ⟨a', cap', acc, rfl, rfl, h3, h4⟩
          exact ⟨a', cap', _, rfl, by simp [ens], h3, h4⟩
theorem refModify13_any (x : TbL) (a : Option Addr) (cap : Nat) (l : List EnL) (y : EnL) (w : World) (hx : TbR w x) (hl : RdE w a l) (hy : EnR w y) (hn : l.length ≤ 900000) :
    Calls Tryz.prog 13 #[x.val, .slice a l.length cap, y.val] w fun e w' => ∃ a' cap' acc, e = .returned (.tuple #[.slice a' acc.length cap', .int .i64 (thI x.t (ens l) y.e).2]) ∧ ens acc = modL x.t (ens l) y.e ∧ RdE w' a' acc ∧ Below w.heap.size w w' := by
  have HK : Hid (∀ W, Below w.heap.size w W → _) := fun W hb => refCheck13_any x y W (hx.below hb) (hy.below hb)
  have HA : Hid (∀ W, Below w.heap.size w W → _) := fun W hb => refAt13_any a cap l y W (hl.below hb) (hy.below hb) (by omega)
  unfold modL
  by_cases h : (thI x.t (ens l) y.e).2 = 0
  · rw [if_pos h]
    obtain ⟨k, h1, h2, h3, hb⟩ := thI_yes h
    rw [chk_zero hb] at HK
    rw [h2] at HA ⊢
    rw [Int.toNat_natCast]
    have hk : k < l.length := by rw [ens_len] at h1; exact h1
    obtain ⟨p, off, rfl, _⟩ := hl.some (by omega)
    refine (refModify_yes x p off cap l y w hl hy hn k hk HK HA).mono ?_
    rintro e w' ⟨a', cap', acc, rfl, rfl, h4, h5⟩
    refine ⟨a', cap', _, by rw [h], ?_, h4, h5⟩
    have e2 : (ens l).getD k y.e = l[k].e := by
      rw [List.getD_eq_getElem?_getD, List.getElem?_eq_getElem h1, Option.getD_some]
      simp [ens]
    rw [e2]
    unfold ens
    rw [List.set_eq_take_append_cons_drop, if_pos hk, List.map_append, List.map_cons, List.map_take, List.map_drop]
    rfl
  · rw [if_neg h]
    suffices H : Calls Tryz.prog 13 #[x.val, .slice a l.length cap, y.val] w fun e w' => e = .returned (.tuple #[.slice none 0 0, .int .i64 (thI x.t (ens l) y.e).2]) ∧ Below w.heap.size w w' by
      refine H.mono ?_
      rintro e w' ⟨rfl, h2⟩
      exact ⟨none, 0, [], rfl, rfl, rdE_zero _, h2⟩
    unfold thI at h ⊢
    cases hb : chkB x.t y.e
    · rw [chk_one hb] at HK
      exact refModify_a x a cap _ y w HK
    · rw [chk_zero hb] at HK
      rw [hb, if_pos rfl] at h
      rw [if_pos rfl]
      by_cases hh : 0 ≤ hereI (ens l) y.e
      · rw [if_pos hh] at h; exact absurd rfl h
      · rw [if_neg hh]
        exact refModify_b x a cap _ y w _ (by omega) HK HA
end Go.Proofs.YteflnicgohjiiaaGreatDoor
/- The document's own Delete (chapter 13), with one answer for all cases. -/
namespace Go.Proofs.YteflnicgohjiiaaGreatDoor
open Go.RowKit

theorem refDelete13_any (x : TbL) (a : Option Addr) (cap : Nat) (l : List EnL) (y : EnL) (w : World) (hx : TbR w x) (hl : RdE w a l) (hy : EnR w y) (hn : l.length ≤ 900000) (hcap : l.length ≤ cap) :
    Calls Tryz.prog 14 #[x.val, .slice a l.length cap, y.val] w fun e w' => ∃ a' cap' acc, e = .returned (.tuple #[.slice a' acc.length cap', .int .i64 (thI x.t (ens l) y.e).2]) ∧ ens acc = delL x.t (ens l) y.e ∧ RdE w' a' acc ∧ Below w.heap.size w w' := by
  have HK : Hid (∀ W, Below w.heap.size w W → _) := fun W hb => refCheck13_any x y W (hx.below hb) (hy.below hb)
  have HA : Hid (∀ W, Below w.heap.size w W → _) := fun W hb => refAt13_any a cap l y W (hl.below hb) (hy.below hb) (by omega)
  unfold delL
  by_cases h : (thI x.t (ens l) y.e).2 = 0
  · rw [if_pos h]
    obtain ⟨k, h1, h2, h3, hb⟩ := thI_yes h
    rw [chk_zero hb] at HK
    rw [h2] at HA ⊢
    rw [Int.toNat_natCast]
    have hk : k < l.length := by rw [ens_len] at h1; exact h1
    obtain ⟨p, off, rfl, _⟩ := hl.some (by omega)
    refine (refDelete_yes x p off cap l y w hl hn hcap k hk HK HA).mono ?_
    rintro e w' ⟨a', cap', acc, rfl, rfl, h4, h5⟩
    refine ⟨a', cap', _, by rw [h], ?_, h4, h5⟩
    unfold ens
    rw [List.map_append, List.map_take, List.map_drop]
  · rw [if_neg h]
    suffices H : Calls Tryz.prog 14 #[x.val, .slice a l.length cap, y.val] w fun e w' => e = .returned (.tuple #[.slice none 0 0, .int .i64 (thI x.t (ens l) y.e).2]) ∧ Below w.heap.size w w' by
      refine H.mono ?_
      rintro e w' ⟨rfl, h2⟩
      exact ⟨none, 0, [], rfl, rfl, rdE_zero _, h2⟩
    unfold thI at h ⊢
    cases hb : chkB x.t y.e
    · rw [chk_one hb] at HK
      exact refDelete_a x a cap _ y w HK
    · rw [chk_zero hb] at HK
      rw [hb, if_pos rfl] at h
      rw [if_pos rfl]
      by_cases hh : 0 ≤ hereI (ens l) y.e
      · rw [if_pos hh] at h; exact absurd rfl h
      · rw [if_neg hh]
        exact refDelete_b x a cap _ y w _ (by omega) HK HA
end Go.Proofs.YteflnicgohjiiaaGreatDoor
