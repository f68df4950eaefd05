/- Pieces of the proof: CoU. -/
import Derived.Test.YtlipcmonlhdgfaaGreatM17
import Derived.Test.YtlipcmonlhdgfaaGreatM18
import Derived.Test.YtlipcmonlhdgfaaGreatM34
import Derived.Test.YtlipcmonlhdgfaaGreatM16
/- package code: what a row asks, whichever. -/
namespace Go.Proofs.YtlipcmonlhdgfaaGreat
open Go.RowKit

def holdB (D : Int → Int → Int → Int → Int → Int × Int × Int × Int) (c : CoL) (v : In) (k e : Int) : Bool :=
  if v.op = 1 then v.lit.ok && v.lit.w == wid c.sl v.to else
  if v.op = 2 then wid c.sl v.to == wid c.sl v.a else
  if v.op = 3 then opB D c.sl v else
  if v.op = 4 then wid c.sl v.to == widW v.n && frB 1 v.l.length 64 else
  if v.op = 5 then wid c.sl v.to == 1 && wtn v.n c.hd.length else
  if v.op = 6 then wtn v.n c.hd.length else
  if v.op = 7 then wtn v.n c.hd.length else
  if v.op = 8 then ayB c.ar v.n 4 else
  if v.op = 9 then rgB c.ar c.sl v.n v.to else
  if v.op = 10 then rgB c.ar c.sl v.n v.b else
  if v.op = 11 then wid c.sl v.to == 1 && ayB c.ar v.n 5 else
  if v.op = 12 then true else
  if v.op = 13 then true else
  if v.op = 16 then true else
  if v.op = 17 then true else
  if v.op = 14 then frB 1 v.l.length 64 else
  if v.op = 15 then wtn v.n 16 else
  if v.op = 18 then wtn v.n c.tb.length else
  if v.op = 19 then callB c v else
  if v.op = 20 then frB (k + 1) v.n e else
  if v.op = 21 then wid c.sl v.a == 1 && frB (k + 1) v.n e else
  false
/- A row's function: it can be called, and answers that. -/
def Hol (W0 : World) (fn : Value) (x : InL) (k e : Int) (b : Bool) : Prop := ∃ N, (∀ args w, (callFunc N args).run Tryz.prog w = .ok (.enter N args) w) ∧ ((fn = .func (.func N) #[] #[] ∧ ∀ W, Below W0.heap.size W0 W → Calls Tryz.prog N #[isV x k e] W fun e w' => e = .returned (.bool b) ∧ Below W.heap.size W w') ∨ (∃ u, fn = .func (.func N) #[u] #[] ∧ ∀ W, Below W0.heap.size W0 W → Calls Tryz.prog N #[u, isV x k e] W fun e w' => e = .returned (.bool b) ∧ Below W.heap.size W w') ∨ (∃ u, fn = .func (.func N) #[] #[u] ∧ ∀ W, Below W0.heap.size W0 W → Calls Tryz.prog N #[isV x k e, u] W fun e w' => e = .returned (.bool b) ∧ Below W.heap.size W w'))
set_option maxRecDepth 100000 in
set_option maxHeartbeats 4000000 in
theorem hol_all (D : Int → Int → Int → Int → Int → Int × Int × Int × Int) (hD : DoOk D) (c : CoL) (g jb : Nat) (r : Value) (x : InL) (k e : Int) (w : World) (hj : Jd w g c r) (hjb : Jb w jb g) (hc : CoR w c) (hx : InR w x) (hk : 0 ≤ k ∧ k ≤ 1000000) : ∀ y ∈ rowsT g jb, y.op = x.v.op → Hol w y.fn x k e (holdB D c x.v k e) := by
  intro y hy ho
  simp only [rowsT, List.mem_cons, List.not_mem_nil, or_false] at hy
  rcases hy with rfl | rfl | rfl | rfl | rfl | rfl | rfl | rfl | rfl | rfl | rfl | rfl | rfl | rfl | rfl | rfl | rfl | rfl | rfl | rfl | rfl
  · have hv : holdB D c x.v k e = (x.v.lit.ok && x.v.lit.w == wid c.sl x.v.to) := by unfold holdB; simp [← ho]
    rw [hv]
    refine ⟨51, (enters_of Tryz.func51 (by kernel_rfl) rfl), Or.inr (Or.inr ⟨_, rfl, fun W hb => ?_⟩)⟩
    exact row1_any c g jb r x k e W (hj.below hb) (hjb.below hb) (hc.below hb) (hx.below hb)
  · have hv : holdB D c x.v k e = (wid c.sl x.v.to == wid c.sl x.v.a) := by unfold holdB; simp [← ho]
    rw [hv]
    refine ⟨53, (enters_of Tryz.func53 (by kernel_rfl) rfl), Or.inr (Or.inr ⟨_, rfl, fun W hb => ?_⟩)⟩
    exact row2_any c g jb r x k e W (hj.below hb) (hjb.below hb) (hc.below hb) (hx.below hb)
  · have hv : holdB D c x.v k e = (opB D c.sl x.v) := by unfold holdB; simp [← ho]
    rw [hv]
    refine ⟨55, (enters_of Tryz.func55 (by kernel_rfl) rfl), Or.inr (Or.inl ⟨_, rfl, fun W hb => ?_⟩)⟩
    exact operation_any D hD c g r x k e W (hj.below hb) (hc.sl.below hb)
  · have hv : holdB D c x.v k e = (wid c.sl x.v.to == widW x.v.n && frB 1 x.v.l.length 64) := by unfold holdB; simp [← ho]
    rw [hv]
    refine ⟨56, (enters_of Tryz.func56 (by kernel_rfl) rfl), Or.inr (Or.inr ⟨_, rfl, fun W hb => ?_⟩)⟩
    exact row3_any c g jb r x k e W (hj.below hb) (hjb.below hb) (hc.below hb) (hx.below hb)
  · have hv : holdB D c x.v k e = (wid c.sl x.v.to == 1 && wtn x.v.n c.hd.length) := by unfold holdB; simp [← ho]
    rw [hv]
    refine ⟨60, (enters_of Tryz.func60 (by kernel_rfl) rfl), Or.inr (Or.inr ⟨_, rfl, fun W hb => ?_⟩)⟩
    exact row4_any c g jb r x k e W (hj.below hb) (hjb.below hb) (hc.below hb) (hx.below hb)
  · have hv : holdB D c x.v k e = (wtn x.v.n c.hd.length) := by unfold holdB; simp [← ho]
    rw [hv]
    refine ⟨62, (enters_of Tryz.func62 (by kernel_rfl) rfl), Or.inr (Or.inr ⟨_, rfl, fun W hb => ?_⟩)⟩
    exact row5_any c g jb r x k e W (hj.below hb) (hjb.below hb) (hc.below hb) (hx.below hb)
  · have hv : holdB D c x.v k e = (wtn x.v.n c.hd.length) := by unfold holdB; simp [← ho]
    rw [hv]
    refine ⟨63, (enters_of Tryz.func63 (by kernel_rfl) rfl), Or.inr (Or.inr ⟨_, rfl, fun W hb => ?_⟩)⟩
    exact row6_any c g jb r x k e W (hj.below hb) (hjb.below hb) (hc.below hb) (hx.below hb)
  · have hv : holdB D c x.v k e = (ayB c.ar x.v.n 4) := by unfold holdB; simp [← ho]
    rw [hv]
    refine ⟨64, (enters_of Tryz.func64 (by kernel_rfl) rfl), Or.inr (Or.inr ⟨_, rfl, fun W hb => ?_⟩)⟩
    exact row7_any c g jb r x k e W (hj.below hb) (hjb.below hb) (hc.below hb) (hx.below hb)
  · have hv : holdB D c x.v k e = (rgB c.ar c.sl x.v.n x.v.to) := by unfold holdB; simp [← ho]
    rw [hv]
    refine ⟨66, (enters_of Tryz.func66 (by kernel_rfl) rfl), Or.inr (Or.inr ⟨_, rfl, fun W hb => ?_⟩)⟩
    exact row8_any c g jb r x k e W (hj.below hb) (hjb.below hb) (hc.below hb) (hx.below hb)
  · have hv : holdB D c x.v k e = (rgB c.ar c.sl x.v.n x.v.b) := by unfold holdB; simp [← ho]
    rw [hv]
    refine ⟨68, (enters_of Tryz.func68 (by kernel_rfl) rfl), Or.inr (Or.inr ⟨_, rfl, fun W hb => ?_⟩)⟩
    exact row9_any c g jb r x k e W (hj.below hb) (hjb.below hb) (hc.below hb) (hx.below hb)
  · have hv : holdB D c x.v k e = (wid c.sl x.v.to == 1 && ayB c.ar x.v.n 5) := by unfold holdB; simp [← ho]
    rw [hv]
    refine ⟨69, (enters_of Tryz.func69 (by kernel_rfl) rfl), Or.inr (Or.inr ⟨_, rfl, fun W hb => ?_⟩)⟩
    exact row10_any c g jb r x k e W (hj.below hb) (hjb.below hb) (hc.below hb) (hx.below hb)
  · have hv : holdB D c x.v k e = (true) := by unfold holdB; simp [← ho]
    rw [hv]
    refine ⟨70, (enters_of Tryz.func70 (by kernel_rfl) rfl), Or.inl ⟨rfl, fun W hb => ?_⟩⟩
    exact always_any x k e W
  · have hv : holdB D c x.v k e = (true) := by unfold holdB; simp [← ho]
    rw [hv]
    refine ⟨70, (enters_of Tryz.func70 (by kernel_rfl) rfl), Or.inl ⟨rfl, fun W hb => ?_⟩⟩
    exact always_any x k e W
  · have hv : holdB D c x.v k e = (true) := by unfold holdB; simp [← ho]
    rw [hv]
    refine ⟨70, (enters_of Tryz.func70 (by kernel_rfl) rfl), Or.inl ⟨rfl, fun W hb => ?_⟩⟩
    exact always_any x k e W
  · have hv : holdB D c x.v k e = (true) := by unfold holdB; simp [← ho]
    rw [hv]
    refine ⟨70, (enters_of Tryz.func70 (by kernel_rfl) rfl), Or.inl ⟨rfl, fun W hb => ?_⟩⟩
    exact always_any x k e W
  · have hv : holdB D c x.v k e = (frB 1 x.v.l.length 64) := by unfold holdB; simp [← ho]
    rw [hv]
    refine ⟨59, (enters_of Tryz.func59 (by kernel_rfl) rfl), Or.inl ⟨rfl, fun W hb => ?_⟩⟩
    exact isFields_any x k e W
  · have hv : holdB D c x.v k e = (wtn x.v.n 16) := by unfold holdB; simp [← ho]
    rw [hv]
    refine ⟨71, (enters_of Tryz.func71 (by kernel_rfl) rfl), Or.inl ⟨rfl, fun W hb => ?_⟩⟩
    exact row11_any x k e W
  · have hv : holdB D c x.v k e = (wtn x.v.n c.tb.length) := by unfold holdB; simp [← ho]
    rw [hv]
    refine ⟨73, (enters_of Tryz.func73 (by kernel_rfl) rfl), Or.inr (Or.inr ⟨_, rfl, fun W hb => ?_⟩)⟩
    exact row12_any c g jb r x k e W (hj.below hb) (hjb.below hb) (hc.below hb) (hx.below hb)
  · have hv : holdB D c x.v k e = (callB c x.v) := by unfold holdB; simp [← ho]
    rw [hv]
    refine ⟨74, (enters_of Tryz.func74 (by kernel_rfl) rfl), Or.inr (Or.inl ⟨_, rfl, fun W hb => ?_⟩)⟩
    exact call12_any c g r x k e W (hj.below hb) (hc.below hb) (hx.below hb)
  · have hv : holdB D c x.v k e = (frB (k + 1) x.v.n e) := by unfold holdB; simp [← ho]
    rw [hv]
    refine ⟨75, (enters_of Tryz.func75 (by kernel_rfl) rfl), Or.inl ⟨rfl, fun W hb => ?_⟩⟩
    exact isAhead_any x k e hk W
  · have hv : holdB D c x.v k e = (wid c.sl x.v.a == 1 && frB (k + 1) x.v.n e) := by unfold holdB; simp [← ho]
    rw [hv]
    refine ⟨76, (enters_of Tryz.func76 (by kernel_rfl) rfl), Or.inr (Or.inr ⟨_, rfl, fun W hb => ?_⟩)⟩
    exact row13_any c g jb r x k e W (hj.below hb) (hjb.below hb) (hc.below hb) (hx.below hb) hk
/- What is asked of an instruction. -/
def insB (D : Int → Int → Int → Int → Int → Int × Int × Int × Int) (c : CoL) (wh : Int) (v : In) (k e : Int) : Bool := (rowA 0 0 v.op).2 && (decide ((rowA 0 0 v.op).1.ls ≤ wh) && (bits .andNot .i64 (prtI v) (rowA 0 0 v.op).1.has == 0 && (slB c.sl v && holdB D c v k e)))
def Rw.key (r : Rw) : Int × Int × Int := (r.op, r.ls, r.has)
theorem find_key {α β : Type} (f : α → β) (p : β → Bool) : ∀ l : List α, (l.find? (fun x => p (f x))).map f = (l.map f).find? p
  | [] => rfl
  | x :: l => by
    rw [List.map_cons]
    by_cases h : p (f x) = true
    · rw [List.find?_cons_of_pos (by exact h), List.find?_cons_of_pos (by exact h)]; rfl
    · rw [List.find?_cons_of_neg (by exact h), List.find?_cons_of_neg (by exact h)]; exact find_key f p l
theorem rowA_key (g jb : Nat) (op : Int) : (rowA g jb op).1.key = (rowA 0 0 op).1.key ∧ (rowA g jb op).2 = (rowA 0 0 op).2 := by
  have h1 := find_key Rw.key (fun t => t.1 == op) (rowsT g jb)
  have h2 := find_key Rw.key (fun t => t.1 == op) (rowsT 0 0)
  have e : (rowsT g jb).map Rw.key = (rowsT 0 0).map Rw.key := rfl
  rw [e, ← h2] at h1
  have h3 : ((rowsT g jb).find? (fun r => r.op == op)).map Rw.key = ((rowsT 0 0).find? (fun r => r.op == op)).map Rw.key := h1
  unfold rowA
  cases ha : (rowsT g jb).find? (fun r => r.op == op) with
  | none =>
    rw [ha] at h3
    cases hb : (rowsT 0 0).find? (fun r => r.op == op) with
    | none => exact ⟨rfl, rfl⟩
    | some b => rw [hb] at h3; cases h3
  | some a =>
    rw [ha] at h3
    cases hb : (rowsT 0 0).find? (fun r => r.op == op) with
    | none => rw [hb] at h3; cases h3
    | some b => rw [hb] at h3; injection h3 with h3; exact ⟨h3, rfl⟩
theorem rowA_mem {g jb : Nat} {op : Int} (h : (rowA g jb op).2 = true) : (rowA g jb op).1 ∈ rowsT g jb ∧ (rowA g jb op).1.op = op := by
  unfold rowA at h ⊢
  cases ha : (rowsT g jb).find? (fun r => r.op == op) with
  | none => rw [ha] at h; cases h
  | some a => exact ⟨List.mem_of_find?_eq_some ha, by simpa using List.find?_some ha⟩
theorem rowA_none {g jb : Nat} {op : Int} (h : (rowA g jb op).2 = false) : (rowA g jb op).1 = rw0 := by
  unfold rowA at h ⊢
  cases ha : (rowsT g jb).find? (fun r => r.op == op) with
  | none => rfl
  | some a => rw [ha] at h; cases h
end Go.Proofs.YtlipcmonlhdgfaaGreat
