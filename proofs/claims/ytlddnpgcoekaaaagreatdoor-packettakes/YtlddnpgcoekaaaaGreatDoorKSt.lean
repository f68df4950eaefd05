/- PacketTakes: both cursors, a zero one and a Book beside one another. -/
import Derived.Test.YtlddnpgcoekaaaaGreatDoorKRe
import Derived.Test.YtlddnpgcoekaaaaGreatDoorNBo
namespace Go.Proofs.YtlddnpgcoekaaaaGreatDoor
open Go.RowKit

/- Both cursors: neither is there, or the packet's at t and the document's at s. -/
def SD (W : World) (B : Nat) (xs : List Nat) (pc pr : Value) (g1 : Nat) (a : Option Addr) (cap g2 : Nat) (v : Value) : Option (Nat × Nat) → Prop
  | none => pc = .pointer none ∧ pr = .pointer none
  | some (t, s) => pc = .pointer (some ⟨g1, 0, none⟩) ∧ pr = .pointer (some ⟨g2, 0, none⟩) ∧ CK W B g1 a cap xs t ∧ RC W B g2 v xs s ∧ g1 ≠ g2 ∧ v.ownBlock ≠ some g1 ∧ (Value.slice a xs.length cap).ownBlock ≠ some g2
def FtB (g1 : Nat) (a : Option Addr) (n cap g2 : Nat) (v : Value) (b : Nat) : Prop := b = g1 ∨ b = g2 ∨ v.ownBlock = some b ∨ (Value.slice a n cap).ownBlock = some b
theorem SD.fr {E : Nat → Prop} {W W' : World} {B : Nat} {xs : List Nat} {pc pr : Value} {g1 : Nat} {a : Option Addr} {cap g2 : Nat} {v : Value} {o : Option (Nat × Nat)} (h : SD W B xs pc pr g1 a cap g2 v o) (hf : Fr E W W') (hn : ∀ b, FtB g1 a xs.length cap g2 v b → ¬ E b) : SD W' B xs pc pr g1 a cap g2 v o := by
  match o, h with
  | none, h => exact h
  | some (t, s), ⟨h1, h2, h3, h4, h5, h6, h7⟩ => exact ⟨h1, h2, h3.fr hf (hn g1 (.inl rfl)) (fun b hb => hn b (.inr (.inr (.inr hb)))), h4.fr hf (hn g2 (.inr (.inl rfl))) (fun b hb => hn b (.inr (.inr (.inl hb)))), h5, h6, h7⟩
/- What taking so many bits comes to. -/
def tkO (xs : List Nat) (n : Int) : Option Nat → Nat × Nat × Int × Option Nat
  | none => (0, 0, 2, none)
  | some t => if 1 ≤ n ∧ n ≤ 128 then (if t + n.toNat ≤ 8 * xs.length then (n.toNat, bval xs t n.toNat, 0, some (t + n.toNat)) else (0, 0, 9, some t)) else (0, 0, 1, some t)
def ansT (r : Nat × Nat × Int × Option Nat) : Ending := .returned (.tuple #[.agg #[.int .i64 (r.1 : Int), .int .u64 (wHi r.2.1), .int .u64 (wLo r.2.1)], .int .i64 r.2.2.1])
def mk2 : Option Nat → Option Nat → Option (Nat × Nat)
  | some t, some s => some (t, s)
  | _, _ => none
theorem w00 : wHi 0 = 0 ∧ wLo 0 = 0 := ⟨by unfold wHi; simp, by unfold wLo; simp⟩
theorem z_ans {er : Int} {o : Option Nat} : ansT (0, 0, er, o) = .returned (.tuple #[.agg #[.int .i64 0, .int .u64 0, .int .u64 0], .int .i64 er]) := by
  unfold ansT; simp only [w00.1, w00.2]; rfl
theorem sd_take1 {W : World} {B : Nat} {xs : List Nat} {pc pr : Value} {g1 : Nat} {a : Option Addr} {cap g2 : Nat} {v : Value} {o : Option Nat} (h : SD W B xs pc pr g1 a cap g2 v (mk2 o o)) (hx : ∀ y ∈ xs, y < 256) (n : Int) :
    Calls Tryz.prog 8 #[pc, .int .i64 n] W fun e w' => e = ansT (tkO xs n o) ∧ SD w' B xs pc pr g1 a cap g2 v (mk2 (tkO xs n o).2.2.2 o) ∧ Fr (fun b => b = g1) W w' := by
  cases o with
  | none =>
    obtain ⟨rfl, rfl⟩ := h
    refine (take_no (.inl rfl) n).mono ?_
    rintro e w' ⟨rfl, hb⟩
    exact ⟨z_ans.symm, ⟨rfl, rfl⟩, Fr.ofBelow hb⟩
  | some t =>
    obtain ⟨rfl, rfl, h3, h4, h5, h6, h7⟩ := h
    by_cases hn : 1 ≤ n ∧ n ≤ 128
    · obtain ⟨m, rfl⟩ : ∃ m : Nat, n = (m : Int) := ⟨n.toNat, by omega⟩
      by_cases ht : t + m ≤ 8 * xs.length
      · have e0 : tkO xs (m : Int) (some t) = (m, bval xs t m, 0, some (t + m)) := by unfold tkO; simp only [hn, and_self, if_true, Int.toNat_natCast, ht]
        rw [e0]
        refine (take_yes h3.cur hx (by have := h3.l1; omega) (by omega) (by omega) ht).mono ?_
        rintro e w' ⟨rfl, hm, hc⟩
        refine ⟨rfl, ⟨rfl, rfl, h3.took hm hc ht, h4.fr hm.toFr (fun e => h5 e.symm) (fun b hb e => h6 (by rw [hb]; exact congrArg some e)), h5, h6, h7⟩, hm.toFr⟩
      · have e0 : tkO xs (m : Int) (some t) = (0, 0, 9, some t) := by unfold tkO; simp only [hn, and_self, if_true, Int.toNat_natCast, ht, if_false]
        rw [e0]
        refine (take_short h3.cur (by have := h3.l1; omega) h3.le (by omega) (by omega) (by omega)).mono ?_
        rintro e w' ⟨rfl, hb⟩
        exact ⟨z_ans.symm, ⟨rfl, rfl, h3.next hb, h4.next hb, h5, h6, h7⟩, Fr.ofBelow hb⟩
    · have e0 : tkO xs n (some t) = (0, 0, 1, some t) := by unfold tkO; simp only [hn, if_false]
      rw [e0]
      refine (take_wide h3.cur n hn).mono ?_
      rintro e w' ⟨rfl, hb⟩
      exact ⟨z_ans.symm, ⟨rfl, rfl, h3.next hb, h4.next hb, h5, h6, h7⟩, Fr.ofBelow hb⟩
theorem sd_take2 {W : World} {B : Nat} {xs : List Nat} {pc pr : Value} {g1 : Nat} {a : Option Addr} {cap g2 : Nat} {v : Value} {o o1 : Option Nat} (h : SD W B xs pc pr g1 a cap g2 v (mk2 o1 o)) (ho : o1 = none ↔ o = none) (hx : ∀ y ∈ xs, y < 256) (n : Int) :
    Calls Tryz.prog 9 #[pr, .int .i64 n] W fun e w' => e = ansT (tkO xs n o) ∧ SD w' B xs pc pr g1 a cap g2 v (mk2 o1 (tkO xs n o).2.2.2) ∧ Fr (fun b => b = g2) W w' := by
  cases o with
  | none =>
    obtain rfl := ho.2 rfl
    obtain ⟨rfl, rfl⟩ := h
    refine (rtake_nil n W).mono ?_
    rintro e w' ⟨rfl, hb⟩
    exact ⟨z_ans.symm, ⟨rfl, rfl⟩, Fr.ofBelow hb⟩
  | some t =>
    cases o1 with
    | none => cases ho.1 rfl
    | some t1 =>
    obtain ⟨rfl, rfl, h3, h4, h5, h6, h7⟩ := h
    by_cases hn : 1 ≤ n ∧ n ≤ 128
    · obtain ⟨m, rfl⟩ : ∃ m : Nat, n = (m : Int) := ⟨n.toNat, by omega⟩
      by_cases ht : t + m ≤ 8 * xs.length
      · have e0 : tkO xs (m : Int) (some t) = (m, bval xs t m, 0, some (t + m)) := by unfold tkO; simp only [hn, and_self, if_true, Int.toNat_natCast, ht]
        rw [e0]
        refine (rtake_yes h4 hx m (by omega) (by omega) ht).mono ?_
        rintro e w' ⟨rfl, hc, hm⟩
        exact ⟨rfl, ⟨rfl, rfl, h3.fr hm (fun e => h5 e) (fun b hb e => h7 (by rw [hb]; exact congrArg some e)), hc, h5, h6, h7⟩, hm⟩
      · have e0 : tkO xs (m : Int) (some t) = (0, 0, 9, some t) := by unfold tkO; simp only [hn, and_self, if_true, Int.toNat_natCast, ht, if_false]
        rw [e0]
        refine (rtake_short h4 m (by omega) (by omega) (by omega)).mono ?_
        rintro e w' ⟨rfl, hb⟩
        exact ⟨z_ans.symm, ⟨rfl, rfl, h3.next hb, h4.next hb, h5, h6, h7⟩, Fr.ofBelow hb⟩
    · have e0 : tkO xs n (some t) = (0, 0, 1, some t) := by unfold tkO; simp only [hn, if_false]
      rw [e0]
      refine (rtake_wide h4 n hn).mono ?_
      rintro e w' ⟨rfl, hb⟩
      exact ⟨z_ans.symm, ⟨rfl, rfl, h3.next hb, h4.next hb, h5, h6, h7⟩, Fr.ofBelow hb⟩
theorem tkO_none (xs : List Nat) (n : Int) (o : Option Nat) : (tkO xs n o).2.2.2 = none ↔ o = none := by
  cases o with
  | none => exact ⟨fun _ => rfl, fun _ => rfl⟩
  | some t =>
    simp only [tkO]
    by_cases h1 : 1 ≤ n ∧ n ≤ 128
    · by_cases h2 : t + n.toNat ≤ 8 * xs.length <;> simp [h1, h2]
    · simp [h1]
/- How many are left, how many were taken, what is left: alike on both sides. -/
def lfO (xs : List Nat) : Option Nat → Nat
  | none => 0
  | some t => 8 * xs.length - t
def atO : Option Nat → Nat
  | none => 0
  | some t => t
def rsO (xs : List Nat) : Option Nat → List Nat
  | none => []
  | some t => xs.drop ((t + 7) / 8)
theorem sd_left {W : World} {B : Nat} {xs : List Nat} {pc pr : Value} {g1 : Nat} {a : Option Addr} {cap g2 : Nat} {v : Value} {o : Option Nat} (h : SD W B xs pc pr g1 a cap g2 v (mk2 o o)) :
    (Calls Tryz.prog 10 #[pc] W fun e w' => e = .returned (.int .i64 (lfO xs o : Int)) ∧ Below W.heap.size W w') ∧ (Calls Tryz.prog 11 #[pr] W fun e w' => e = .returned (.int .i64 (lfO xs o : Int)) ∧ Below W.heap.size W w') ∧
    (Calls Tryz.prog 12 #[pc] W fun e w' => e = .returned (.int .i64 (atO o : Int)) ∧ Below W.heap.size W w') ∧ (Calls Tryz.prog 13 #[pr] W fun e w' => e = .returned (.int .i64 (atO o : Int)) ∧ Below W.heap.size W w') ∧
    (Calls Tryz.prog 15 #[pc] W fun e w' => ∃ u, e = .returned u ∧ Own8 w' W.heap.size u (rsO xs o) ∧ Below W.heap.size W w') ∧ (Calls Tryz.prog 16 #[pr] W fun e w' => ∃ u, e = .returned u ∧ Own8 w' W.heap.size u (rsO xs o) ∧ Below W.heap.size W w') := by
  cases o with
  | none =>
    obtain ⟨rfl, rfl⟩ := h
    refine ⟨?_, ?_, ?_, ?_, ?_, ?_⟩
    · exact (left_no (.inl rfl)).mono fun e w' ⟨k1, k2⟩ => ⟨k1, k2 ▸ Below.refl _ _⟩
    · exact (rleft_nil W).mono fun e w' ⟨k1, k2⟩ => ⟨k1, k2 ▸ Below.refl _ _⟩
    · exact (at_no (.inl rfl)).mono fun e w' ⟨k1, k2⟩ => ⟨k1, k2 ▸ Below.refl _ _⟩
    · exact (rplace_nil W).mono fun e w' ⟨k1, k2⟩ => ⟨k1, k2 ▸ Below.refl _ _⟩
    · exact (rest_no (.inl rfl)).mono fun e w' ⟨k1, k2⟩ => ⟨_, k1, Own8.nil _ _, k2 ▸ Below.refl _ _⟩
    · exact (rrest_nil W).mono fun e w' ⟨k1, k2⟩ => ⟨_, k1, Own8.nil _ _, k2 ▸ Below.refl _ _⟩
  | some t =>
    obtain ⟨rfl, rfl, h3, h4, h5, h6, h7⟩ := h
    refine ⟨?_, ?_, ?_, ?_, ?_, ?_⟩
    · exact left_any h3.cur (by have := h3.l1; omega) h3.le
    · exact rleft_any h4
    · exact at_any h3.cur
    · exact (rplace_any h4).mono fun e w' ⟨k1, k2⟩ => ⟨k1, k2 ▸ Below.refl _ _⟩
    · exact rest_own h3 _ rfl
    · exact rrest_own h4 _ rfl
/- All of it. -/
theorem Bok.frE {E : Nat → Prop} {W W' : World} {B g n : Nat} {vb : Value} {hs : List Hb} (h : Bok W B g vb n hs) (hf : Fr E W W') (hn : ∀ b, B ≤ b → ¬ E b) : Bok W' B g vb n hs :=
  ⟨h.bk.fr hf (hn g h.bk.gB) (fun b hb => hn b (h.bk.vlt b hb).1), h.sep, fun x hx => (h.ow x hx).fr hf (fun b hb => hn b (World.ownsRow.lt (h.ow x hx) b hb).1), h.lim, h.nn⟩
structure St (w W : World) (M g1 : Nat) (a : Option Addr) (cap g2 : Nat) (v : Value) (xs : List Nat) (pc pr : Value) (o1 o2 : Option Nat) (vb : Value) (n : Nat) (hs : List Hb) : Prop where
  bl : Below w.heap.size w W
  wM : w.heap.size ≤ M
  sd : SD W w.heap.size xs pc pr g1 a cap g2 v (mk2 o1 o2)
  lo : w.heap.size ≤ g1 ∧ w.heap.size ≤ g2
  ft : ∀ b, FtB g1 a xs.length cap g2 v b → b < M
  z : W.cell? ⟨M, 2, none⟩ = some (.bool false)
  bk : Bok W (M + 1) (M + 1) vb n hs
theorem St.mw {w W : World} {M g1 : Nat} {a : Option Addr} {cap g2 : Nat} {v : Value} {xs : List Nat} {pc pr : Value} {o1 o2 : Option Nat} {vb : Value} {n : Nat} {hs : List Hb} (h : St w W M g1 a cap g2 v xs pc pr o1 o2 vb n hs) : M + 2 ≤ W.heap.size := h.bk.bk.lt
theorem St.next {w W W' : World} {M g1 : Nat} {a : Option Addr} {cap g2 : Nat} {v : Value} {xs : List Nat} {pc pr : Value} {o1 o2 : Option Nat} {vb : Value} {n : Nat} {hs : List Hb} (h : St w W M g1 a cap g2 v xs pc pr o1 o2 vb n hs) (hb : Below W.heap.size W W') : St w W' M g1 a cap g2 v xs pc pr o1 o2 vb n hs :=
  have hf : Fr (fun _ => False) W W' := Fr.ofBelow hb
  ⟨h.bl.trans (hb.mono h.bl.size), h.wM, h.sd.fr hf (fun _ _ e => e), h.lo, h.ft, hf.cell h.z (fun e => e), h.bk.frE hf (fun _ _ e => e)⟩
theorem St.move {w W W' : World} {M g1 : Nat} {a : Option Addr} {cap g2 : Nat} {v : Value} {xs : List Nat} {pc pr : Value} {o1 o2 o3 o4 : Option Nat} {vb : Value} {n : Nat} {hs : List Hb} (h : St w W M g1 a cap g2 v xs pc pr o1 o2 vb n hs) {d : Nat} (hd : d = g1 ∨ d = g2) (hf : Fr (fun b => b = d) W W') (hs' : SD W' w.heap.size xs pc pr g1 a cap g2 v (mk2 o3 o4)) : St w W' M g1 a cap g2 v xs pc pr o3 o4 vb n hs := by
  have hdM : d < M := by rcases hd with rfl | rfl; exact h.ft _ (.inl rfl); exact h.ft _ (.inr (.inl rfl))
  have hdw : w.heap.size ≤ d := by rcases hd with rfl | rfl; exact h.lo.1; exact h.lo.2
  exact ⟨h.bl.trans (hf.below (fun b e => by have e' : b = d := e; omega) h.bl.size), h.wM, hs', h.lo, h.ft, hf.cell h.z (fun e => by have e' : M = d := e; omega), h.bk.frE hf (fun b hb e => by have e' : b = d := e; omega)⟩
theorem St.tell {w W W' : World} {M g1 : Nat} {a : Option Addr} {cap g2 : Nat} {v : Value} {xs : List Nat} {pc pr : Value} {o1 o2 : Option Nat} {vb vb' : Value} {n n' : Nat} {hs hs' : List Hb} (h : St w W M g1 a cap g2 v xs pc pr o1 o2 vb n hs) (hf : Fr (BE (M + 1) vb) W W') (hk : Bok W' (M + 1) (M + 1) vb' n' hs') : St w W' M g1 a cap g2 v xs pc pr o1 o2 vb' n' hs' := by
  have hE : ∀ b, BE (M + 1) vb b → M + 1 ≤ b := fun b e => by
    rcases e with e | e
    · omega
    · exact (h.bk.bk.vlt b e).1
  have hW := h.mw
  exact ⟨h.bl.trans ((hf.below hE (by omega)).mono (by have := h.wM; omega)), h.wM, h.sd.fr hf (fun b hb e => by have := h.ft b hb; have := hE b e; omega), h.lo, h.ft, hf.cell h.z (fun e => by have := hE M e; omega), hk⟩
theorem St.zero {w W : World} {M g1 : Nat} {a : Option Addr} {cap g2 : Nat} {v : Value} {xs : List Nat} {pc pr : Value} {o1 o2 : Option Nat} {vb : Value} {n : Nat} {hs : List Hb} (h : St w W M g1 a cap g2 v xs pc pr o1 o2 vb n hs) : Nope W (.pointer (some ⟨M, 0, none⟩)) := .inr ⟨M, rfl, h.z⟩
end Go.Proofs.YtlddnpgcoekaaaaGreatDoor
