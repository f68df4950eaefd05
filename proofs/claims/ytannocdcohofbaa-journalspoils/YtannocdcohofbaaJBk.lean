/- pointsmanlaw05: great; three rows of one's own. -/
import Derived.Test.YtannocdcohofbaaJHo
namespace Go.Proofs.Ytannocdcohofbaa
open Go.RowKit

theorem tot_one (ls : List It) (k : Nat) (h : k < ls.length) : ls[k].xs.length ≤ tot ls := by
  have h1 := tot_succ ls k h
  have h2 := tot_le ls (k + 1)
  omega
theorem great_any (a : Option Addr) (cap : Nat) (ls : List It) (w : World) (hll : ls.length ≤ 140737488355328) (hr : RdL w a ls) : Calls Try.prog 27 #[.slice a ls.length cap] w fun e w' => ∃ b, e = .returned (.bool b) ∧ (b = false → ls.length + tot ls ≤ 200000) ∧ w' = w := by
  have HR := hide hr
  have HLL := hide hll
  clear hr hll
  go_enter Try.func27, Try.ntmps27
  go_wp2
  go_loopw [3, 4] (fun n i wr => ∃ k : Nat, k ≤ ls.length ∧ i = .int .i64 k ∧ n = .int .i64 ((ls.length + tot (ls.take k) : Nat) : Int) ∧ ls.length + tot (ls.take k) ≤ 281474976910656 ∧ wr = w) (fun _ i _ => ls.length - (intOf i).toNat)
  case atStart => exact ⟨0, by omega, rfl, rfl, by have := HLL.out; simp [tot]; omega, rfl⟩
  case round =>
    obtain ⟨k, hk, rfl, rfl, hn, hwr⟩ := hrel
    have hww := hwr.symm
    clear hwr
    subst hww
    by_cases hbig : 200000 < ls.length + tot (ls.take k)
    · generalize ls.length + tot (ls.take k) = T at *
      have d1 : ((T : Int) ≤ 200000) = False := eq_false (by omega)
      have d2 : ((T : Int) > 200000) = True := eq_true (by omega)
      have d3 : (T ≤ 200000) = False := eq_false (by omega)
      have d4 : (200000 < T) = True := eq_true (by omega)
      clear hbig HR
      by_cases hlt : k < ls.length
      · have hlI : ((k : Int) < (ls.length : Int)) = True := eq_true (by omega)
        have hlJ : (k < ls.length) = True := eq_true (by omega)
        go_wp2
        go_ret
        exact ⟨true, rfl, (fun h => by cases h), rfl⟩
      · have hlI : ((k : Int) < (ls.length : Int)) = False := eq_false (by omega)
        have hlJ : (k < ls.length) = False := eq_false (by omega)
        go_wp2
        go_ret
        exact ⟨true, rfl, (fun h => by cases h), rfl⟩
    by_cases hlt : k < ls.length
    · obtain ⟨p, off, rfl, hp, hcl⟩ := HR.out.some (by omega)
      have q0 := hcl k hlt
      have hil := (HR.out.ok _ (List.getElem_mem hlt)).ln
      have HS := hide (tot_succ ls k hlt)
      have hlI : (k : Int) < (ls.length : Int) := by omega
      have hkb : k < 140737488355328 := by have := HLL.out; omega
      clear hcl
      generalize ls[k] = o at *
      obtain ⟨T, hT⟩ : ∃ T, T = ls.length + tot (ls.take k) := ⟨_, rfl⟩
      rw [← hT] at hbig ⊢
      have d1 : ((T : Int) ≤ 200000) = True := eq_true (by omega)
      have d3 : (T ≤ 200000) = True := eq_true (by omega)
      have hw2 : IntKind.i64.wrap ((T : Int) + (o.xs.length : Int)) = (T : Int) + (o.xs.length : Int) := by rw [IntKind.wrap_i64]; omega
      have HB := hide hbig
      have HTE := hide hT
      clear hn hT hbig
      go_wp2
      go_roundw
      case rel => exact ⟨k + 1, by omega, by go_num, by rw [HS.out]; congr 1; have := HTE.out; omega, by rw [HS.out]; have := HB.out; have := HTE.out; omega, by first | rfl | trivial⟩
      case measure => simp [intOf]; omega
    obtain rfl : k = ls.length := by omega
    rw [List.take_length] at hbig ⊢
    have HT := hide (Nat.le_of_not_lt hbig)
    clear hn hlt hbig hk HR
    have HT0 := hide HT.out
    generalize ls.length + tot ls = T at HT ⊢
    have d1 : ((T : Int) ≤ 200000) = True := eq_true (by have := HT.out; omega)
    have d2 : ((T : Int) > 200000) = False := eq_false (by have := HT.out; omega)
    have d3 : (T ≤ 200000) = True := eq_true HT.out
    have d4 : (200000 < T) = False := eq_false (by have := HT.out; omega)
    go_wp2
    go_ret
    exact ⟨false, rfl, fun _ => HT0.out, rfl⟩
theorem Try.infoI : (Try.prog.info? 3).map (fun i => (i.zero, i.size, i.bytes)) = some (some (.int .i64 0), 1, 8) := by kernel_rfl
def zof (n : Nat) : Value := .int .i64 (n : Int)
def OwnZ (W : World) (B : Nat) (v : Value) (ns : List Nat) : Prop := W.ownsRow B 3 1 v ns.length (ns.map zof)
theorem OwnZ.below {W W' : World} {B : Nat} {v : Value} {xs : List Nat} (h : OwnZ W B v xs) (hb : Below W.heap.size W W') : OwnZ W' B v xs := sameRow h (fun b e => hb.block b (World.ownsRow.lt h b e).2)
theorem OwnZ.sl {W : World} {B : Nat} {v : Value} {ns : List Nat} (h : OwnZ W B v ns) : ∃ a c, v = .slice a ns.length c := by
  rcases h.2 with ⟨rfl, h0⟩ | ⟨gr, cap, cur, rfl, _⟩
  · exact ⟨none, 0, by rw [h0]⟩
  · exact ⟨_, _, rfl⟩
theorem OwnZ.some {W : World} {B : Nat} {v : Value} {ns : List Nat} (h : OwnZ W B v ns) (h0 : 0 < ns.length) : ∃ g c, v = .slice (Option.some ⟨g, 0, none⟩) ns.length c ∧ ns.length ≤ c ∧ ∀ i (h : i < ns.length), W.cell? ⟨g, i, none⟩ = Option.some (.int .i64 (ns[i] : Nat)) := by
  rcases h.2 with ⟨_, hn⟩ | ⟨g, cap, cur, hv, hg, hcur, h1, _⟩
  · omega
  · refine ⟨g, cap, hv, h1, fun i hi => ?_⟩
    subst hv
    have hi2 : i < (ns.map zof).length := by rw [List.length_map]; exact hi
    have h5 := World.ownsRow.cells h (g := g) rfl i _ (List.getElem?_eq_getElem hi2)
    rw [add8, Nat.zero_add] at h5
    rw [h5, List.getElem_map]; rfl
theorem wpList_appZ {w : World} {ops : Array Oper} {rest : List Oper} {o : Oper} {a : Act} {Q : Exit → Act → World → Prop} (hgd : o.guard = none) (s x : Operand) (ho : o.op = .call { callee := .builtin .append, args := #[s, x], argTypes := #[54, 54] })
    (B : Nat) (v : Value) (ns : List Nat) (hs : a.eval s = v) (hown : OwnZ w B v ns) (q : Addr) (u : Nat) (hx : a.eval x = .slice (some q) 1 1) (hc : w.cell? q = some (zof u)) (hq : q.spot = none)
    (hl : ns.length ≤ 1000000000) (hB : B ≤ w.heap.size)
    (h : ∀ v' w', OwnZ w' B v' (ns ++ [u]) → w.grownBy w' v.ownBlock → (v'.ownBlock = v.ownBlock ∨ v'.ownBlock = some w.heap.size) → wpList Try.prog ops Q rest (a.put o.dst v') w') :
    wpList Try.prog ops Q (o :: rest) a w := by
  obtain ⟨i0, hi0, hz0, hz1, hz2⟩ := info_parts Try.infoI
  refine wpList_append_own_at w hgd s x 54 ho B 3 i0 (.int .i64 0) 1 8 Try.underlying54 hi0 hz0 hz1 hz2 rfl (by decide) v ns.length (ns.map zof) hs hown q 1 1 [zof u] hx rfl (fun j y hj => ?_) (fun y hy => by rw [List.mem_singleton.1 hy]; rfl) (by unfold maxLen; omega) (by omega) hB ?_
  · cases j with
    | zero =>
      have e : q.add 0 = q := by obtain ⟨b, o', sp⟩ := q; cases sp with | none => rw [add8]; rfl | some _ => cases hq
      have : zof u = y := by simpa using hj
      rw [e, ← this]; exact hc
    | succ j => simp at hj
  · intro v' w' h1 h2 _ h4
    exact h v' w' (by unfold OwnZ; rw [List.length_append, List.map_append]; exact h1) h2 h4
/- Three rows of one's own: bytes, records, numbers. -/
structure Bk3 (w W : World) (B : Nat) (vb vw ve : Value) (xs : List Nat) (ws : List It) (es : List Nat) : Prop where
  bl : Below w.heap.size w W
  wB : w.heap.size ≤ B
  BW : B ≤ W.heap.size
  ob : Own8 W B vb xs
  ow : OwnL W B vw (ws.map vof)
  oe : OwnZ W B ve es
  a1 : ∀ b, vb.ownBlock = some b → vw.ownBlock ≠ some b
  a2 : ∀ b, vb.ownBlock = some b → ve.ownBlock ≠ some b
  a3 : ∀ b, vw.ownBlock = some b → ve.ownBlock ≠ some b
  ok : ∀ it ∈ ws, ItOk w it
theorem Bk3.next {w W W' : World} {B : Nat} {vb vw ve : Value} {xs : List Nat} {ws : List It} {es : List Nat} (h : Bk3 w W B vb vw ve xs ws es) (hb : Below W.heap.size W W') : Bk3 w W' B vb vw ve xs ws es :=
  ⟨h.bl.trans (hb.mono h.bl.size), h.wB, Nat.le_trans h.BW hb.size, h.ob.below hb, h.ow.below hb, h.oe.below hb, h.a1, h.a2, h.a3, h.ok⟩
theorem keepRow {W W' : World} {B B' n n' : Nat} {e e' : TypeId} {v u : Value} {xs ys : List Value} (h : W.ownsRow B e 1 v n xs) (_k : W.ownsRow B' e' 1 u n' ys) (hg : W.grownBy W' u.ownBlock) (hne : ∀ b, v.ownBlock = some b → u.ownBlock ≠ some b) : W'.ownsRow B e 1 v n xs :=
  sameRow h (fun b hb => hg.block b (World.ownsRow.lt h b hb).2 (fun e => hne b hb e.symm))
theorem newApart {W : World} {B n : Nat} {e : TypeId} {u v v' : Value} {xs : List Value} (h : W.ownsRow B e 1 u n xs) (hne : ∀ b, u.ownBlock = some b → v.ownBlock ≠ some b) (K : v'.ownBlock = v.ownBlock ∨ v'.ownBlock = some W.heap.size) : ∀ b, u.ownBlock = some b → v'.ownBlock ≠ some b := by
  intro b hb e
  rcases K with k | k
  · exact hne b hb (by rw [← k]; exact e)
  · rw [k] at e; injection e with e; have := (World.ownsRow.lt h b hb).2; omega
theorem flipA {u v : Value} (h : ∀ b, u.ownBlock = some b → v.ownBlock ≠ some b) : ∀ b, v.ownBlock = some b → u.ownBlock ≠ some b := fun b hb e => h b e hb
theorem Bk3.grow {w W W' : World} {B : Nat} {vb vw ve : Value} {xs : List Nat} {ws : List It} {es : List Nat} (h : Bk3 w W B vb vw ve xs ws es) {row : Option Nat} (hg : W.grownBy W' row) (hr : ∀ b, row = some b → B ≤ b) : Below w.heap.size w W' ∧ B ≤ W'.heap.size :=
  ⟨h.bl.grown hg (Nat.le_trans h.wB h.BW) (fun k e => Nat.le_trans h.wB (hr k e)), Nat.le_trans h.BW hg.size⟩
theorem Bk3.appB {w W W' : World} {B : Nat} {vb vb' vw ve : Value} {xs xs' : List Nat} {ws : List It} {es : List Nat} (h : Bk3 w W B vb vw ve xs ws es) (O : Own8 W' B vb' xs') (G : W.grownBy W' vb.ownBlock) (K : vb'.ownBlock = vb.ownBlock ∨ vb'.ownBlock = some W.heap.size) : Bk3 w W' B vb' vw ve xs' ws es := by
  obtain ⟨h1, h2⟩ := h.grow G (fun b e => (World.ownsRow.lt h.ob b e).1)
  exact ⟨h1, h.wB, h2, O, keepRow h.ow h.ob G (flipA h.a1), keepRow h.oe h.ob G (flipA h.a2), flipA (newApart h.ow (flipA h.a1) K), flipA (newApart h.oe (flipA h.a2) K), h.a3, h.ok⟩
theorem Bk3.appW {w W W' : World} {B : Nat} {vb vw vw' ve : Value} {xs : List Nat} {ws : List It} {es : List Nat} {it : It} (h : Bk3 w W B vb vw ve xs ws es) (hi : ItOk w it) (O : OwnL W' B vw' (ws.map vof ++ [vof it])) (G : W.grownBy W' vw.ownBlock) (K : vw'.ownBlock = vw.ownBlock ∨ vw'.ownBlock = some W.heap.size) : Bk3 w W' B vb vw' ve xs (ws ++ [it]) es := by
  obtain ⟨h1, h2⟩ := h.grow G (fun b e => (World.ownsRow.lt h.ow b e).1)
  refine ⟨h1, h.wB, h2, keepRow h.ob h.ow G h.a1, by rw [List.map_append]; exact O, keepRow h.oe h.ow G (flipA h.a3), newApart h.ob h.a1 K, h.a2, flipA (newApart h.oe (flipA h.a3) K), fun x hx => ?_⟩
  rcases List.mem_append.1 hx with hx | hx
  · exact h.ok x hx
  · rw [List.mem_singleton.1 hx]; exact hi
theorem Bk3.appE {w W W' : World} {B : Nat} {vb vw ve ve' : Value} {xs : List Nat} {ws : List It} {es es' : List Nat} (h : Bk3 w W B vb vw ve xs ws es) (O : OwnZ W' B ve' es') (G : W.grownBy W' ve.ownBlock) (K : ve'.ownBlock = ve.ownBlock ∨ ve'.ownBlock = some W.heap.size) : Bk3 w W' B vb vw ve' xs ws es' := by
  obtain ⟨h1, h2⟩ := h.grow G (fun b e => (World.ownsRow.lt h.oe b e).1)
  exact ⟨h1, h.wB, h2, keepRow h.ob h.oe G h.a2, keepRow h.ow h.oe G h.a3, O, h.a1, newApart h.ob h.a2 K, newApart h.ow h.a3 K, h.ok⟩
/- The first records that are awaited can be read. -/
theorem want_rdl {w W : World} {B : Nat} {a : Option Addr} {n c : Nat} {ws : List It} (hb : Below w.heap.size w W) (h : OwnL W B (.slice a n c) (ws.map vof)) (ok : ∀ it ∈ ws, ItOk w it) (k : Nat) : RdL W a (ws.take k) := by
  refine ⟨?_, fun it hi => ?_⟩
  · rcases h.2 with ⟨_, h0⟩ | ⟨gr, cap, cur, e', hg, hcur, _⟩
    · left
      have : ws = [] := List.length_eq_zero_iff.1 (by rw [List.length_map] at h0; exact h0)
      rw [this]; simp
    · injection e' with e1 e2 e3
      subst e1
      refine .inr ⟨gr, 0, rfl, (Array.getElem?_eq_some_iff.1 hcur).1, fun i hi => ?_⟩
      rw [List.length_take] at hi
      have hi2 : i < (ws.map vof).length := by rw [List.length_map]; omega
      have h5 := World.ownsRow.cells h (g := gr) rfl i _ (List.getElem?_eq_getElem hi2)
      rw [add8] at h5
      rw [h5, List.getElem_map, List.getElem_take]; rfl
  · have := ok it (List.mem_of_mem_take hi)
    exact ⟨this.rd.below hb, this.le, this.nn, this.ln⟩
end Go.Proofs.Ytannocdcohofbaa
