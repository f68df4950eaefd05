/- Pieces of the proof: XA, XB, XC, XD, XL, XLa, XLc. -/
import Derived.Test.YthlfbpadakoamabM7
import Derived.Lib.AppendStr
/- package wire: a writer, and what it tells: text, put. -/
namespace Go.Proofs.Ythlfbpadakoamab
open Go.RowKit

/- 'append(v, s...)', s a text. -/
def byts (s : ByteArray) : List Nat := s.data.toList.map (·.toNat)
theorem strCells_byts (s : ByteArray) : Go.Lib.strCells s = u8s (byts s) := by unfold Go.Lib.strCells u8s byts; rw [List.map_map]; rfl
theorem byts_length (s : ByteArray) : (byts s).length = s.size := by unfold byts; rw [List.length_map, Array.length_toList]; rfl
theorem app_str_at {w : World} {B n : Nat} {xs : List Value} {v v' : Value} {w' : World} {i : TypeInfo} {s : ByteArray} (ty : TypeId) (hi : Try.prog.info? 5 = some i) (hz : i.zero = some (.int .u8 0)) (hsize : i.size = 1) (hby : i.bytes = 1) (hown : w.ownsRow B 5 1 v n xs)
    (hb : n + s.size ≤ 1000000000) (hr : (Builtin.append_ #[22, 9] ty #[v, .string s]).run Try.prog w = .ok v' w') (hnil : v' = .slice none 0 0 ↔ v = .slice none 0 0 ∧ s.size = 0) :
    v'.ownBlock = v.ownBlock ∨ v'.ownBlock = some w.heap.size := by
  have hxl : xs.length = n := by simpa using hown.1
  rcases hown.2 with ⟨rfl, rfl⟩ | ⟨g, cap, cur, rfl, hbg, hg, hnc, hcm, hcs, htake⟩
  · by_cases hm : s.size = 0
    · exact .inl (by rw [hnil.2 ⟨rfl, hm⟩])
    · have h := run_append_nil_string (P := Try.prog) w 22 9 ty 5 i (.int .u8 0) Try.underlying22 Try.underlying9 hi hz s (by omega) (by omega) (by rw [hby]; omega)
      rw [hr] at h
      injection h with h1 _
      exact .inr (by rw [h1]; rfl)
  · by_cases hroom : n + s.size ≤ cap
    · have h := Go.Lib.run_append_room_string (P := Try.prog) w 22 9 ty 5 i Try.underlying22 Try.underlying9 hi hsize g n cap cur hg s hroom (by rw [hcs]; omega)
      rw [hr] at h
      injection h with h1 _
      exact .inl (by rw [h1]; rfl)
    · have holds : ∀ j u, xs[j]? = some u → w.cell? ((⟨g, 0, none⟩ : Addr).add j) = some u := hown.cells (g := g) rfl
      have h := Go.Lib.run_append_grow_string (P := Try.prog) w 22 9 ty 5 i (.int .u8 0) Try.underlying22 Try.underlying9 hi hz ⟨g, 0, none⟩ n cap xs (by rw [hsize]; simpa using hxl) holds s (by omega) (by omega) (by rw [hby]; exact growslice_fits (by omega) (by omega))
      rw [hr] at h
      injection h with h1 _
      exact .inr (by rw [h1]; rfl)
theorem wpList_appS {w : World} {ops : Array Oper} {rest : List Oper} {o : Oper} {a : Act} {Q : Exit → Act → World → Prop} (hgd : o.guard = none) (sl x : Operand)
    (ho : o.op = .call { callee := .builtin .append, args := #[sl, x], argTypes := #[22, 9] }) (B : Nat) (v : Value) (xs : List Nat) (hs : a.eval sl = v) (hown : Own8 w B v xs) (s : ByteArray) (hx : a.eval x = .string s) (hl : xs.length + s.size ≤ 1000000000) (hB : B ≤ w.heap.size)
    (h : ∀ v' w', Own8 w' B v' (xs ++ byts s) → w.grownBy w' v.ownBlock → (v'.ownBlock = v.ownBlock ∨ v'.ownBlock = some w.heap.size) → wpList Try.prog ops Q rest (a.put o.dst v') w') : wpList Try.prog ops Q (o :: rest) a w := by
  obtain ⟨i0, hi0, hz0, hz1, hz2⟩ := info_parts Try.info8
  refine wpList_plain hgd fun K hK => ?_
  obtain ⟨v', w', hr, h2, h3, h4⟩ := Go.Lib.run_append_own_string (P := Try.prog) w B 22 9 o.type 5 i0 Try.underlying22 Try.underlying9 hi0 hz0 hz1 hz2 v xs.length (u8s xs) hown s (by unfold maxLen; omega) (by omega) hB
  have h5 := app_str_at o.type hi0 hz0 hz1 hz2 hown hl hr h4
  unfold Oper.wp execOp
  simp only [ho, resolve, invoke, builtin, Sem.run_bind, Sem.run_pure, Result.andThen_ok, List.map_toArray, List.map_cons, List.map_nil, hs, hx, hr]
  refine hK _ _ (h v' w' ?_ h3 h5)
  unfold Own8
  rw [u8s_append, ← strCells_byts, List.length_append, byts_length]
  exact h2
theorem sameRow {W W' : World} {B n : Nat} {e : TypeId} {v : Value} {xs : List Value} (h : W.ownsRow B e 1 v n xs) (hs : ∀ b, v.ownBlock = some b → W'.heap[b]? = W.heap[b]?) : W'.ownsRow B e 1 v n xs := by
  refine ⟨h.1, ?_⟩
  rcases h.2 with h0 | ⟨gr, cap, cur, rfl, hg, hcur, rest⟩
  · exact .inl h0
  · exact .inr ⟨gr, cap, cur, rfl, hg, (hs gr rfl).trans hcur, rest⟩
/- A writer at p, of blocks from B on; bs: what was told. -/
structure Wr (B : Nat) (W : World) (p : Nat) (v : Value) (bs : List Nat) : Prop where
  cell : W.heap[p]? = some (.cells #[v, .int .i64 (bs.length : Int)] 80 (0, 0))
  pB : B ≤ p
  ne : v.ownBlock ≠ some p
  body : ∃ ys, Own8 W B v ys ∧ ys.length ≤ 65536 ∧ (bs.length ≤ 65536 → ys = bs)
  small : bs.length ≤ 1000000000000
/- What a call may touch: the writer, its own bytes, new blocks. -/
structure Wm (p : Nat) (W : World) (v : Value) (W' : World) (v' : Value) : Prop where
  fr : Fr (fun b => b = p ∨ v.ownBlock = some b) W W'
  own : v'.ownBlock = v.ownBlock ∨ ∀ b, v'.ownBlock = some b → W.heap.size ≤ b
theorem Wm.refl (p : Nat) (W : World) (v : Value) : Wm p W v W v := ⟨Fr.refl _ _, .inl rfl⟩
theorem Wm.trans {p : Nat} {W W1 W2 : World} {v v1 v2 : Value} (h : Wm p W v W1 v1) (k : Wm p W1 v1 W2 v2) : Wm p W v W2 v2 := by
  refine ⟨h.fr.trans k.fr (fun b hb e => ?_), ?_⟩
  · rcases e with e | e
    · exact .inl e
    · rcases h.own with o | o
      · exact .inr (o ▸ e)
      · have := o b e; omega
  · rcases k.own with o | o
    · rcases h.own with o' | o'
      · exact .inl (o.trans o')
      · exact .inr (fun b e => o' b (o ▸ e))
    · exact .inr (fun b e => Nat.le_trans h.fr.size (o b e))
theorem Wm.keep {p : Nat} {W W' : World} {v v' : Value} (h : Wm p W v W' v') {s : Nat} {o : Obj} (hs : W.heap[s]? = some o) (hp : s ≠ p) (hv : v.ownBlock ≠ some s) : W'.heap[s]? = some o :=
  (h.fr.block s (lt_of_heap hs) (fun e => e.elim hp hv)).trans hs
theorem Wm.far {p : Nat} {W W' : World} {v v' : Value} (h : Wm p W v W' v') {s : Nat} (hs : s < W.heap.size) (hv : v.ownBlock ≠ some s) : v'.ownBlock ≠ some s := fun e => by
  rcases h.own with o | o
  · exact hv (o ▸ e)
  · have := o s e; omega
theorem Wm.below {B p : Nat} {W W' : World} {v v' : Value} {bs : List Nat} (h : Wm p W v W' v') (hw : Wr B W p v bs) (hB : B ≤ W.heap.size) : Below B W W' := by
  obtain ⟨ys, ho, _⟩ := hw.body
  exact h.fr.below (fun b e => by rcases e with rfl | e; exact hw.pB; exact (own_lt ho b e).1) hB
theorem Wr.lt {B : Nat} {W : World} {p : Nat} {v : Value} {bs : List Nat} (h : Wr B W p v bs) : p < W.heap.size := lt_of_heap h.cell
theorem Wr.le {B : Nat} {W : World} {p : Nat} {v : Value} {bs : List Nat} (h : Wr B W p v bs) : B ≤ W.heap.size := by have := h.lt; have := h.pB; omega
theorem Wr.bod {B : Nat} {W : World} {p : Nat} {v : Value} {bs : List Nat} (h : Wr B W p v bs) : ∀ b, v.ownBlock = some b → b < W.heap.size := fun b e => by
  obtain ⟨ys, ho, _⟩ := h.body
  exact (own_lt ho b e).2
theorem Wr.alloc {B : Nat} {W : World} {p : Nat} {v : Value} {bs : List Nat} (h : Wr B W p v bs) (o : Obj) : Wr B (W.alloc o) p v bs := by
  obtain ⟨ys, h1, h2, h3⟩ := h.body
  exact ⟨(Below.heap_alloc _ _ _ h.lt).trans h.cell, h.pB, h.ne, ⟨ys, own_alloc h1 o, h2, h3⟩, h.small⟩
theorem Wm.alloc {p : Nat} {W : World} {v : Value} (o : Obj) : Wm p W v (W.alloc o) v := ⟨(Fr.refl _ _).alloc o, .inl rfl⟩
theorem Wr.next {B : Nat} {W W' : World} {p : Nat} {v : Value} {bs : List Nat} (h : Wr B W p v bs) (hb : Below W.heap.size W W') : Wr B W' p v bs := by
  obtain ⟨ys, h1, h2, h3⟩ := h.body
  exact ⟨(hb.block _ h.lt).trans h.cell, h.pB, h.ne, ⟨ys, Own8.below h1 hb, h2, h3⟩, h.small⟩
theorem Wm.ofBelow {p : Nat} {W W' : World} {v : Value} (h : Below W.heap.size W W') : Wm p W v W' v := ⟨Fr.ofBelow h, .inl rfl⟩
theorem cells2 {W : World} {s : Nat} {a b : Value} {t : TypeId} (h : W.heap[s]? = some (.cells #[a, b] t (0, 0))) : W.cell? ⟨s, 0, none⟩ = some a ∧ W.cell? ⟨s, 1, none⟩ = some b ∧ ∀ o, W.frozen? ⟨s, o, none⟩ = false := by
  refine ⟨?_, ?_, fun o => ?_⟩
  all_goals first | (unfold World.cell?; simp only [h]; rfl) | (unfold World.frozen?; simp only [h]; simp)
set_option maxHeartbeats 2000000 in
theorem text_any {B : Nat} {W : World} {p : Nat} {v : Value} {bs : List Nat} (s : ByteArray) (h : Wr B W p v bs) (hs : s.size ≤ 1000000000) (hl : bs.length + s.size ≤ 1000000000000) :
    Calls Try.prog 65 #[.pointer (some ⟨p, 0, none⟩), .string s] W fun e W' => ∃ v', e = .returned (.tuple #[]) ∧ Wr B W' p v' (bs ++ byts s) ∧ Wm p W v W' v' := by
  obtain ⟨ys, ho, hy, hyb⟩ := h.body
  have hB := h.le
  obtain ⟨c0, c1, cf⟩ := cells2 h.cell
  have HW := hide h
  obtain ⟨N, hN⟩ : ∃ N, bs.length + s.size = N := ⟨_, rfl⟩
  have HN := hide hN
  have HLB := hide hl
  have HO := hide ho; have HY := hide hy; have HYB := hide hyb
  have hw : IntKind.i64.wrap ((bs.length : Int) + (s.size : Int)) = N := by rw [IntKind.wrap_i64]; omega
  have hw2 : wrap64 ((bs.length : Int) + (s.size : Int)) = N := by unfold wrap64; omega
  obtain ⟨sh, ch, eh, hh1, hh2, hh3⟩ := ho.shape
  have HNB : Hid ((bs ++ byts s).length = N) := hide (by rw [List.length_append, byts_length]; exact hN)
  by_cases hle : N ≤ 65536
  · have d1 : ((N : Int) ≤ 65536) = True := eq_true (by omega)
    have HOW := hide (sameRow (W' := W.setCell ⟨p, 1, none⟩ (.int .i64 (N : Int))) ho (fun b e => set_other (fun e' => h.ne (by rw [e, e']))))
    have hyl : ys.length + s.size ≤ 1000000000 := by omega
    have hBW : B ≤ (W.setCell ⟨p, 1, none⟩ (.int .i64 (N : Int))).heap.size := by simpa using hB
    have HPC : Hid ((W.setCell ⟨p, 1, none⟩ (.int .i64 (N : Int))).heap[p]? = some (.cells #[v, .int .i64 (N : Int)] 80 (0, 0))) := hide (heap_setCell_same h.cell _)
    have HPL : Hid (p < (W.setCell ⟨p, 1, none⟩ (.int .i64 (N : Int))).heap.size) := hide (by simpa using h.lt)
    have HNE := hide h.ne
    obtain ⟨M, hM⟩ : ∃ M, (ys ++ byts s).length = M := ⟨_, rfl⟩
    have HM := hide hM
    clear hM
    clear h hN ho hy hyb hs hl eh hh1 hh2 hh3
    go_enter Try.func65, Try.ntmps65
    go_wp2_with (at_builtin; refine wpList_appS rfl _ _ rfl B v ys rfl HOW.out s rfl hyl hBW ?_; intro v1 w1 O1 G1 K1; have HO1 := hide O1; have HP1 := hide ((G1.block p HPL.out HNE.out.symm).trans HPC.out); obtain ⟨e0, e1, ef⟩ := cells2 HP1.out; obtain ⟨sa, sc, hv1, _, _, _⟩ := O1.shape; rw [HM.out] at hv1; subst hv1; have HG1 := hide G1; have HK1 := hide K1; clear O1 G1 K1)
    go_end0
    have hne' : Value.ownBlock (.slice sa M sc) ≠ some p := fun e => by
      rcases HK1.out with k | k
      · exact HNE.out (k ▸ e)
      · rw [k] at e; injection e with e; have := HPL.out; omega
    have hsz : W.heap.size ≤ w1.heap.size := by have := HG1.out.size; simpa using this
    have hsc : (W.setCell ⟨p, 1, none⟩ (.int .i64 (N : Int))).heap.size = W.heap.size := by simp
    refine ⟨_, rfl, ⟨?_, HW.out.pB, hne', ⟨ys ++ byts s, ?_, ?_, ?_⟩, ?_⟩, ⟨?_, ?_⟩⟩
    · rw [HNB.out]; exact heap_setCell_same HP1.out _
    · exact sameRow HO1.out (fun b e => set_other (fun e' => hne' (by rw [e, e'])))
    · have := HN.out; rw [List.length_append, byts_length]
      have h2 := HYB.out (by omega); rw [h2]; omega
    · intro _; rw [HYB.out (by have := HN.out; omega)]
    · rw [HNB.out]; omega
    · have f1 : Fr (fun b => b = p ∨ v.ownBlock = some b) W (W.setCell ⟨p, 1, none⟩ (.int .i64 (N : Int))) := (Fr.refl _ _).set _ _ (.inl rfl)
      have f2 : Fr (fun b => b = p ∨ v.ownBlock = some b) (W.setCell ⟨p, 1, none⟩ (.int .i64 (N : Int))) w1 := Fr.grown HG1.out (fun r e => .inr e)
      exact (f1.trans f2 (fun _ _ e => e)).set _ _ (.inl rfl)
    · rcases HK1.out with k | k
      · exact .inl k
      · exact .inr (fun b e => by rw [k, hsc] at e; injection e with e; omega)
  · have d1 : ((N : Int) ≤ 65536) = False := eq_false (by omega)
    have HPC := hide (heap_setCell_same (k := 1) h.cell (.int .i64 (N : Int)))
    have HLE := hide hle
    clear h hN ho hy hyb hs hl eh hh1 hh2 hh3 hle
    go_enter Try.func65, Try.ntmps65
    go_wp2
    go_end0
    refine ⟨v, rfl, ⟨?_, HW.out.pB, HW.out.ne, ⟨ys, ?_, HY.out, ?_⟩, ?_⟩, ⟨(Fr.refl _ _).set _ _ (.inl rfl), .inl rfl⟩⟩
    · rw [HNB.out]; exact HPC.out
    · exact sameRow HO.out (fun b e => set_other (fun e' => HW.out.ne (by rw [e, e'])))
    · rw [HNB.out]; exact fun hh => absurd hh HLE.out
    · rw [HNB.out, ← HN.out]; exact HLB.out
end Go.Proofs.Ythlfbpadakoamab
/- package wire: put, byte, whole, name, as they tell. -/
namespace Go.Proofs.Ythlfbpadakoamab
open Go.RowKit

def Told (B p : Nat) (W : World) (v : Value) (bs t : List Nat) (e : Ending) (W' : World) : Prop := ∃ v', e = .returned (.tuple #[]) ∧ Wr B W' p v' (bs ++ t) ∧ Wm p W v W' v'
theorem byts_strOf {xs : List Nat} (h : ∀ x ∈ xs, x < 256) : byts (strOf xs) = xs := by
  unfold byts strOf strOfNums
  simp only [List.map_map]
  have : ∀ (l : List Nat), (∀ x ∈ l, x < 256) → l.map (UInt8.toNat ∘ ((fun n => UInt8.ofNat n.toNat) ∘ fun (x : Nat) => (x : Int))) = l := by
    intro l
    induction l with
    | nil => intro _; rfl
    | cons a l ih =>
      intro hl
      rw [List.map_cons, ih (fun x hx => hl x (List.mem_cons_of_mem _ hx))]
      congr 1
      have := hl a (by simp)
      simp
      omega
  simpa using this xs h
theorem strOf_size {xs : List Nat} (h : ∀ x ∈ xs, x < 256) : (strOf xs).size = xs.length := by rw [← byts_length, byts_strOf h]
theorem Wr.more {B : Nat} {W : World} {p : Nat} {v : Value} {bs : List Nat} (h : Wr B W p v bs) : bs.length ≤ 1000000000000 := h.small
set_option maxHeartbeats 1000000 in
theorem put_any {B : Nat} {W : World} {p : Nat} {v : Value} {bs : List Nat} (q off cap : Nat) (xs : List Nat) (h : Wr B W p v bs) (hx : Bs W q off xs) (h256 : ∀ x ∈ xs, x < 256) (hs : xs.length ≤ 1000000000) (hl : bs.length + xs.length ≤ 1000000000000) :
    Calls Try.prog 73 #[.pointer (some ⟨p, 0, none⟩), .slice (some ⟨q, off, none⟩) xs.length cap] W fun e W' => Told B p W v bs xs e W' := by
  have hst := run_str q off cap xs W hx
  have HT := hide (text_any (strOf xs) h (by rw [strOf_size h256]; exact hs) (by rw [strOf_size h256]; exact hl))
  rw [byts_strOf h256] at HT
  obtain ⟨S, hS⟩ : ∃ S, strOf xs = S := ⟨_, rfl⟩
  rw [hS] at hst HT
  clear h hx h256 hs hl hS
  go_enter Try.func73, Try.ntmps73
  go_wp2_with fail
  refine HT.out.mono ?_
  rintro e w1 ⟨v1, rfl, h1, h2⟩
  have H1 := hide h1; have H2 := hide h2
  clear h1 h2
  go_wp2
  go_end0
  exact ⟨v1, rfl, H1.out, H2.out⟩
theorem Told.of {B p : Nat} {W W1 W' : World} {v : Value} {bs t : List Nat} {e : Ending} (h : Told B p W1 v bs t e W') (hm : Wm p W v W1 v) : Told B p W v bs t e W' := by
  obtain ⟨v', h1, h2, h3⟩ := h
  exact ⟨v', h1, h2, hm.trans h3⟩
set_option maxHeartbeats 1000000 in
theorem wbyte_yes {B : Nat} {W : World} {p : Nat} {v : Value} {bs : List Nat} (n : Nat) (h : Wr B W p v bs) (hn : n < 256) (hl : bs.length + 1 ≤ 1000000000000) :
    Calls Try.prog 44 #[.pointer (some ⟨p, 0, none⟩), .int .i64 n] W fun e W' => Told B p W v bs [n] e W' := by
  have d1 : ((n : Int) ≥ 0) = True := eq_true (by omega)
  have d2 : ((n : Int) ≤ 255) = True := eq_true (by omega)
  have d3 : ((0 : Int) ≤ (n : Int)) = True := eq_true (by omega)
  have hw : IntKind.u8.wrap (n : Int) = n := by rw [IntKind.wrap_u8]; omega
  have hbs : Bs (W.alloc (.cells #[.int .u8 (n : Int)] 5)) W.heap.size 0 [n] := fun i hi => by
    have : i = 0 := by simp at hi; omega
    subst this
    simp [World.cell?_alloc_new]
  have HP := hide (put_any W.heap.size 0 1 [n] (h.alloc (.cells #[.int .u8 (n : Int)] 5)) hbs (by simpa using hn) (by simp) (by simpa using hl))
  have HM := hide must_yes
  clear h hn hl hbs
  go_enter Try.func44, Try.ntmps44
  go_wp2_with fail
  refine (HM.out _).mono ?_
  rintro e w1 ⟨rfl, hw1⟩
  subst hw1
  go_wp2_with fail
  refine HP.out.mono ?_
  rintro e w2 hT
  have H2 := hide (Told.of hT (Wm.alloc _))
  obtain ⟨v1, rfl, _, _⟩ := hT
  go_wp2
  go_end0
  exact H2.out
end Go.Proofs.Ythlfbpadakoamab
/- package wire: wholeOf; whole and name, as they tell. -/
namespace Go.Proofs.Ythlfbpadakoamab
open Go.RowKit

def at4 (c0 c1 c2 c3 k : Nat) : Nat := if k = 0 then c0 else if k = 1 then c1 else if k = 2 then c2 else c3
structure Part4 (f : Nat → Nat) (k B : Nat) (W : World) : Prop where
  lt : B < W.heap.size
  done : ∀ i, i < k → W.cell? ⟨B, i, none⟩ = some (.int .u8 ((f i : Nat) : Int))
  left : ∀ i, k ≤ i → i < 4 → W.cell? ⟨B, i, none⟩ = some (.int .u8 0)
  soft : ∀ i, W.frozen? ⟨B, i, none⟩ = false
theorem at_ne4 {B i k : Nat} (h : i ≠ k) : (⟨B, i, none⟩ : Addr) ≠ ⟨B, k, none⟩ := fun e => h (by injection e)
theorem Part4.step {f : Nat → Nat} {k B : Nat} {W : World} (h : Part4 f k B W) (hk : k < 4) (y : Int) (hy : y = ((f k : Nat) : Int)) : Part4 f (k + 1) B (W.setCell ⟨B, k, none⟩ (.int .u8 y)) := by
  subst hy
  refine ⟨by simpa using h.lt, fun i hi => ?_, fun i hi h2 => ?_, fun i => by rw [World.frozen?_setCell]; exact h.soft i⟩
  · by_cases e : i = k
    · subst e; exact World.cell?_setCell_same' _ _ _ (by rw [h.left i (Nat.le_refl _) hk]; rfl)
    · rw [World.cell?_setCell_other _ _ _ _ (at_ne4 (by omega))]; exact h.done i (by omega)
  · rw [World.cell?_setCell_other _ _ _ _ (at_ne4 (by omega))]; exact h.left i (by omega) h2
theorem Part4.far {f : Nat → Nat} {k B : Nat} {W : World} (h : Part4 f k B W) (q : Addr) (v : Value) (hne : q.block ≠ B) : Part4 f k B (W.setCell q v) :=
  ⟨by simpa using h.lt, fun i hi => (World.cell?_setCell_far _ _ _ _ hne).trans (h.done i hi), fun i hi h2 => (World.cell?_setCell_far _ _ _ _ hne).trans (h.left i hi h2), fun i => by rw [World.frozen?_setCell]; exact h.soft i⟩
def zero4 : Array Value := #[.int .u8 0, .int .u8 0, .int .u8 0, .int .u8 0]
theorem zero4_get (i : Nat) (h : i < 4) : zero4[i]? = some (.int .u8 0) := by
  rcases (by omega : i = 0 ∨ i = 1 ∨ i = 2 ∨ i = 3) with rfl | rfl | rfl | rfl <;> rfl
theorem part4_block {f : Nat → Nat} {B : Nat} {W : World} {t : TypeId} (h : W.heap[B]? = some (.cells zero4 t (0, 0))) : Part4 f 0 B W := by
  refine ⟨(Array.getElem?_eq_some_iff.1 h).1, fun i hi => by omega, fun i _ hi => ?_, fun i => ?_⟩
  · unfold World.cell?; simp only [h]; exact zero4_get i hi
  · unfold World.frozen?; simp [h]
theorem part4_new2 (f : Nat → Nat) (w : World) (t : TypeId) : Part4 f 0 (w.heap.size + 1) ((w.alloc (.cells zero4 t)).alloc (.cells zero4 t)) := by
  have h := heap_alloc_new (w.alloc (.cells zero4 t)) (.cells zero4 t)
  rw [World.size_alloc] at h
  exact part4_block h
theorem part4_new1 (f : Nat → Nat) (w : World) (t : TypeId) : Part4 f 0 w.heap.size ((w.alloc (.cells zero4 t)).alloc (.cells zero4 t)) :=
  part4_block ((Below.heap_alloc _ _ _ (by simp)).trans (heap_alloc_new w (.cells zero4 t)))
theorem val4_at (c0 c1 c2 c3 : Nat) (h0 : c0 < 256) (h1 : c1 < 256) (h2 : c2 < 256) (h3 : c3 < 256) : val4 c0 c1 c2 c3 / 16777216 % 256 = c0 ∧ val4 c0 c1 c2 c3 / 65536 % 256 = c1 ∧ val4 c0 c1 c2 c3 / 256 % 256 = c2 ∧ val4 c0 c1 c2 c3 % 256 = c3 := by
  unfold val4; omega
set_option maxHeartbeats 1000000 in
theorem wholeOf_any (c0 c1 c2 c3 : Nat) (w : World) (h0 : c0 < 256) (h1 : c1 < 256) (h2 : c2 < 256) (h3 : c3 < 256) :
    Calls Try.prog 37 #[.int .u32 (val4 c0 c1 c2 c3)] w fun e w' => e = .returned (arr4 c0 c1 c2 c3) ∧ Below w.heap.size w w' := by
  have HV := hide (val4_at c0 c1 c2 c3 h0 h1 h2 h3)
  generalize val4 c0 c1 c2 c3 = n at *
  clear h0 h1 h2 h3
  go_enter Try.func37, Try.ntmps37
  go_wp2
  go_loopw [5] (fun i wr => ∃ k : Nat, k ≤ 4 ∧ i = .int .i64 k ∧ Below w.heap.size w wr ∧ Part4 (at4 c0 c1 c2 c3) k (w.heap.size + 1) wr ∧ Part4 (at4 c0 c1 c2 c3) 0 w.heap.size wr) (fun i _ => 4 - (intOf i).toNat)
  case atStart => exact ⟨0, by omega, rfl, ((Below.refl _ _).alloc (Nat.le_refl _) _).alloc (by simp) _, part4_new2 _ w _, part4_new1 _ w _⟩
  case round =>
    obtain ⟨k, hk, rfl, hB, hP, hQ⟩ := hrel
    by_cases hlt : k < 4
    · have hck := hP.left k (Nat.le_refl _) hlt
      have hfk := hP.soft k
      have HB := hide hB; have HP := hide hP; have HQ := hide hQ
      clear hB hP hQ
      rcases (by omega : k = 0 ∨ k = 1 ∨ k = 2 ∨ k = 3) with rfl | rfl | rfl | rfl
      all_goals
        go_wp2
        go_roundw
        case rel => exact ⟨_, by omega, by go_num, HB.out.setCell (by simp) _, HP.out.step (by omega) _ (by have := HV.out; simp [at4]; omega), HQ.out.far _ _ (by simp)⟩
        case measure => simp [intOf]
    · obtain rfl : k = 4 := by omega
      have q0 := hP.done 0 (by omega); have q1 := hP.done 1 (by omega); have q2 := hP.done 2 (by omega); have q3 := hP.done 3 (by omega)
      have d0 := hQ.left 0 (by omega) (by omega); have d1 := hQ.left 1 (by omega) (by omega); have d2 := hQ.left 2 (by omega) (by omega); have d3 := hQ.left 3 (by omega) (by omega)
      have hsf := hQ.soft
      have HB := hide hB
      clear hB hP hQ
      simp only [at4] at q0 q1 q2 q3
      go_wp2
      refine bodyPost_ret (v := arr4 c0 c1 c2 c3) (by simp [results, Try.results37, go_sem, arr4, d0, d1, d2, d3]) rfl ⟨rfl, ?_⟩
      exact (((HB.out.setCell (Nat.le_refl _) _).setCell (Nat.le_refl _) _).setCell (Nat.le_refl _) _).setCell (Nat.le_refl _) _
/- A whole's bytes. -/
def WholeT (n : Int) (t : List Nat) : Prop := ∃ x0 x1 x2 x3 : Nat, x0 < 256 ∧ x1 < 256 ∧ x2 < 256 ∧ x3 < 256 ∧ val4 x0 x1 x2 x3 ≤ 2147483647 ∧ n = (val4 x0 x1 x2 x3 : Int) ∧ t = [x0, x1, x2, x3]
set_option maxHeartbeats 1000000 in
theorem wwhole_yes {B : Nat} {W : World} {p : Nat} {v : Value} {bs t : List Nat} (n : Int) (h : Wr B W p v bs) (hT : WholeT n t) (hl : bs.length + 4 ≤ 1000000000000) :
    Calls Try.prog 46 #[.pointer (some ⟨p, 0, none⟩), .int .i64 n] W fun e W' => Told B p W v bs t e W' := by
  obtain ⟨x0, x1, x2, x3, h0, h1, h2, h3, hv, rfl, rfl⟩ := hT
  have HO := hide (fun W => wholeOf_any x0 x1 x2 x3 W h0 h1 h2 h3)
  have H256 : Hid (∀ x ∈ [x0, x1, x2, x3], x < 256) := hide (by simp [h0, h1, h2, h3])
  have HW := hide h
  have HL := hide hl
  have HM := hide must_yes
  have hv32 : val4 x0 x1 x2 x3 < 4294967296 := by omega
  generalize val4 x0 x1 x2 x3 = V at *
  have d1 : ((V : Int) ≥ 0) = True := eq_true (by omega)
  have d3 : ((0 : Int) ≤ (V : Int)) = True := eq_true (by omega)
  have d2 : ((V : Int) ≤ 2147483647) = True := eq_true (by omega)
  have hw : IntKind.u32.wrap (V : Int) = V := by rw [IntKind.wrap_u32]; omega
  clear h h0 h1 h2 h3 hl hv hv32
  go_enter Try.func46, Try.ntmps46
  go_wp2_with fail
  refine (HM.out _).mono ?_
  rintro e w1 ⟨rfl, hw1⟩
  subst hw1
  go_wp2_with fail
  refine (HO.out _).mono ?_
  rintro e w2 ⟨rfl, hb2⟩
  have W2 := hide (HW.out.next hb2)
  have M2 := hide (Wm.ofBelow (p := p) (v := v) hb2)
  have W3 := hide (W2.out.alloc (.cells #[.int .u8 (x0 : Int), .int .u8 (x1 : Int), .int .u8 (x2 : Int), .int .u8 (x3 : Int)] 83))
  have hbs : Bs (w2.alloc (.cells #[.int .u8 (x0 : Int), .int .u8 (x1 : Int), .int .u8 (x2 : Int), .int .u8 (x3 : Int)] 83)) w2.heap.size 0 [x0, x1, x2, x3] := fun i hi => by
    rcases (by simp at hi; omega : i = 0 ∨ i = 1 ∨ i = 2 ∨ i = 3) with rfl | rfl | rfl | rfl <;> simp [World.cell?_alloc_new]
  have HP := hide (put_any w2.heap.size 0 4 [x0, x1, x2, x3] W3.out hbs H256.out (by simp) (by simpa using HL.out))
  unfold arr4
  clear hb2 hbs
  go_wp2_with fail
  refine HP.out.mono ?_
  rintro e w4 hT
  have H4 := hide (Told.of hT (M2.out.trans (Wm.alloc _)))
  obtain ⟨v1, rfl, _, _⟩ := hT
  go_wp2
  go_end0
  exact H4.out
/- A name's bytes. -/
def NameT (s : ByteArray) (t : List Nat) : Prop := s.size ≤ 255 ∧ t = s.size :: byts s
set_option maxHeartbeats 1000000 in
theorem wname_yes {B : Nat} {W : World} {p : Nat} {v : Value} {bs t : List Nat} (s : ByteArray) (h : Wr B W p v bs) (hT : NameT s t) (hl : bs.length + 256 ≤ 1000000000000) :
    Calls Try.prog 71 #[.pointer (some ⟨p, 0, none⟩), .string s] W fun e W' => Told B p W v bs t e W' := by
  obtain ⟨hs, rfl⟩ := hT
  have HB := hide (wbyte_yes s.size h (by omega) (by omega))
  have HS := hide hs; have HL := hide hl
  clear h hs hl
  go_enter Try.func71, Try.ntmps71
  go_wp2_with fail
  refine HB.out.mono ?_
  rintro e w1 ⟨v1, rfl, h1, m1⟩
  have M1 := hide m1
  have HT := hide (text_any s h1 (by have := HS.out; omega) (by have := HS.out; have := HL.out; simp; omega))
  rw [List.append_assoc, List.singleton_append] at HT
  clear h1 m1
  go_wp2_with fail
  refine HT.out.mono ?_
  rintro e w2 ⟨v2, rfl, h2, m2⟩
  have W2 := hide h2
  have M2 := hide (M1.out.trans m2)
  clear h2 m2
  go_wp2
  go_end0
  exact ⟨v2, rfl, W2.out, M2.out⟩
end Go.Proofs.Ythlfbpadakoamab
/- package wire: number, as it tells. -/
namespace Go.Proofs.Ythlfbpadakoamab
open Go.RowKit

def bytesOf (u N : Nat) : List Nat := (List.range N).map (byteAt u N)
theorem bytesOf_cells (u N : Nat) : byteTo u N N = u8s (bytesOf u N) := by
  unfold byteTo u8s bytesOf
  rw [List.map_map]
  apply List.map_congr_left
  intro j hj
  rw [if_pos (List.mem_range.1 hj)]
  rfl
theorem bytesOf_length (u N : Nat) : (bytesOf u N).length = N := by simp [bytesOf]
theorem bytesOf_lt (u N : Nat) : ∀ x ∈ bytesOf u N, x < 256 := fun x hx => by
  obtain ⟨j, _, rfl⟩ := List.mem_map.1 hx
  exact Nat.mod_lt _ (by decide)
/- A number's bytes. -/
def NumT (b : BitsA) (t : List Nat) : Prop := (b = zeroA ∧ t = [0]) ∨ ∃ n u : Nat, 1 ≤ n ∧ n ≤ 128 ∧ u < 2 ^ n ∧ b = ⟨n, wHi u, wLo u⟩ ∧ t = n :: bytesOf u ((n + 7) / 8)
set_option maxHeartbeats 2000000 in
theorem wnumber_yes {B : Nat} {W : World} {p : Nat} {v : Value} {bs t : List Nat} (b : BitsA) (h : Wr B W p v bs) (hT : NumT b t) (hl : bs.length + 17 ≤ 1000000000000) :
    Calls Try.prog 50 #[.pointer (some ⟨p, 0, none⟩), b.val] W fun e W' => Told B p W v bs t e W' := by
  have hp := h.lt
  rcases hT with ⟨rfl, rfl⟩ | ⟨n, u, n1, n2, hu, rfl, rfl⟩
  · unfold BitsA.val zeroA
    have W1 := hide (h.alloc (.cells #[.int .i64 0, .int .u64 0, .int .u64 0] 35))
    have HB := hide (wbyte_yes 0 W1.out (by decide) (by omega))
    have HS := hide (heap_alloc_new W (.cells #[.int .i64 0, .int .u64 0, .int .u64 0] 35))
    have HNE : Hid (v.ownBlock ≠ some W.heap.size) := hide (fun e => by have := h.bod _ e; omega)
    clear h hl
    go_enter Try.func50, Try.ntmps50
    go_wp2_with fail
    refine HB.out.mono ?_
    rintro e w1 ⟨v1, rfl, h1, m1⟩
    obtain ⟨a0, a1, a2, af⟩ := cells3 (m1.keep HS.out (by omega) HNE.out)
    have H1 := hide h1
    have M1 := hide ((Wm.alloc _).trans m1)
    clear h1 m1
    go_wp2
    refine bodyPost_ret (results_none rfl _ _ _) rfl ?_
    exact ⟨v1, rfl, H1.out, M1.out⟩
  · unfold BitsA.val
    have htop : u < top := Nat.lt_of_lt_of_le hu (pow_le_top n2)
    have HBY := hide (fun W => bytes_yes n u W htop (by omega) (by omega) (by rw [Int.toNat_natCast]; exact hu))
    obtain ⟨H, hH⟩ : ∃ H, wHi u = H := ⟨_, rfl⟩
    obtain ⟨L, hL⟩ : ∃ L, wLo u = L := ⟨_, rfl⟩
    rw [hH, hL] at HBY ⊢
    have W1 := hide (h.alloc (.cells #[.int .i64 (n : Int), .int .u64 H, .int .u64 L] 35))
    have HB := hide (wbyte_yes n W1.out (by omega) (by omega))
    have HS := hide (heap_alloc_new W (.cells #[.int .i64 (n : Int), .int .u64 H, .int .u64 L] 35))
    have HNE : Hid (v.ownBlock ≠ some W.heap.size) := hide (fun e => by have := h.bod _ e; omega)
    have e0 : ((n : Int) == 0) = false := by simp; omega
    obtain ⟨N, hN⟩ : ∃ N, (n + 7) / 8 = N := ⟨_, rfl⟩
    have HN16 : Hid (N ≤ 16) := hide (by omega)
    rw [hN]
    have HN := hide hN
    have HL := hide hl
    clear h hl n1 n2 hu htop hH hL hN
    go_enter Try.func50, Try.ntmps50
    go_wp2_with fail
    refine HB.out.mono ?_
    rintro e w1 ⟨v1, rfl, h1, m1⟩
    obtain ⟨a0, a1, a2, af⟩ := cells3 (m1.keep HS.out (by omega) HNE.out)
    have H1 := hide h1
    have M1 := hide ((Wm.alloc _).trans m1)
    clear h1 m1
    go_wp2_with fail
    refine (HBY.out _).mono ?_
    rintro e w2 ⟨g, N', hN', rfl, ho, hb⟩
    obtain rfl : N' = N := by rw [hN', Int.toNat_natCast]; exact HN.out
    rw [bytesOf_cells] at ho
    have hrd := Own8.rd (xs := bytesOf u N') (B := w1.heap.size) (by unfold Own8; rw [bytesOf_length]; exact ho)
    have W2 := hide (H1.out.next hb)
    have M2 := hide (M1.out.trans (Wm.ofBelow (p := p) (v := v1) hb))
    have hbs : Bs w2 g 0 (bytesOf u N') := by
      rcases hrd.2 with hnil | ⟨q, off, e, _, hc⟩
      · intro i hi; rw [hnil] at hi; simp at hi
      · injection e with e; injection e with e1 e2; subst e1 e2; exact hc
    have HP := hide (put_any g 0 N' (bytesOf u N') W2.out hbs (bytesOf_lt u N') (by rw [bytesOf_length]; have := HN16.out; omega) (by rw [bytesOf_length]; have := HN16.out; have := HL.out; simp; omega))
    rw [bytesOf_length] at HP
    clear ho hb hrd hbs hN' HBY
    go_wp2_with fail
    refine (must_yes _).mono ?_
    rintro e w3 ⟨rfl, hw⟩
    subst hw
    go_wp2_with fail
    refine HP.out.mono ?_
    rintro e w4 ⟨v4, rfl, h4, m4⟩
    have H4 := hide h4
    have M4 := hide (M2.out.trans m4)
    clear h4 m4
    go_wp2
    go_end0
    exact ⟨v4, rfl, by have := H4.out; rw [List.append_assoc, List.singleton_append] at this; exact this, M4.out⟩
end Go.Proofs.Ythlfbpadakoamab
/- Lists that are told. -/
namespace Go.Proofs.Ythlfbpadakoamab
open Go.RowKit

def slack : Nat := 1000000000000 - 300
def ManyT {α : Type} (T : α → List Nat → Prop) : List α → List Nat → Prop
  | [], t => t = []
  | x :: l, t => ∃ a b, T x a ∧ ManyT T l b ∧ t = a ++ b
/- What a method of the writer tells of a value. -/
def Writes {α : Type} (F : Nat) (rep : World → (Nat → Prop) → Value → α → Prop) (T : α → List Nat → Prop) : Prop :=
  ∀ (B : Nat) (W : World) (p : Nat) (v : Value) (bs t : List Nat) (u : Value) (x : α), Wr B W p v bs → rep W (· < B) u x → T x t → bs.length + t.length ≤ slack → Calls Try.prog F #[.pointer (some ⟨p, 0, none⟩), u] W fun e W' => Told B p W v bs t e W'
def Sizes (F : Nat) (S : Nat → List Nat → Prop) : Prop :=
  ∀ (B : Nat) (W : World) (p : Nat) (v : Value) (bs t : List Nat) (n : Nat), Wr B W p v bs → S n t → bs.length + t.length ≤ slack → Calls Try.prog F #[.pointer (some ⟨p, 0, none⟩), .int .i64 n] W fun e W' => Told B p W v bs t e W'
def ByteT (n : Nat) (t : List Nat) : Prop := n < 256 ∧ t = [n]
theorem byte_sizes : Sizes 44 ByteT := fun B W p v bs t n h hS hl => by
  obtain ⟨hn, rfl⟩ := hS
  exact wbyte_yes n h hn (by simp [slack] at hl; omega)
theorem number_writes : Writes 50 BitsR NumT := fun B W p v bs t u x h hr hT hl => by
  obtain rfl : u = x.val := hr
  exact wnumber_yes x h hT (by unfold slack at hl; omega)
theorem whole_writes : Writes 46 IntR WholeT := fun B W p v bs t u x h hr hT hl => by
  obtain rfl : u = .int .i64 x := hr
  exact wwhole_yes x h hT (by unfold slack at hl; omega)
theorem name_writes : Writes 71 StrR NameT := fun B W p v bs t u x h hr hT hl => by
  obtain rfl : u = .string x := hr
  exact wname_yes x h hT (by unfold slack at hl; omega)
theorem Told.ret {B p : Nat} {W W' : World} {v : Value} {bs t : List Nat} {e : Ending} (h : Told B p W v bs t e W') : e = .returned (.tuple #[]) := by
  obtain ⟨_, h1, _⟩ := h; exact h1
theorem flat_get (K : Nat) : ∀ (css : List (List Value)) (i j : Nat) (h : i < css.length), (∀ k (hk : k < css.length), css[k].length = K) → j < K → css.flatten[i * K + j]? = css[i][j]?
  | cs :: css, 0, j, _, hK, hj => by
    have h0 : cs.length = K := hK 0 (by simp)
    rw [List.flatten_cons, Nat.zero_mul, Nat.zero_add, List.getElem?_append_left (by omega)]; rfl
  | cs :: css, i + 1, j, h, hK, hj => by
    have h0 : cs.length = K := hK 0 (by simp)
    have hi : i < css.length := by simpa using h
    rw [List.flatten_cons, List.getElem?_append_right (by rw [h0, Nat.succ_mul]; omega), h0, show (i + 1) * K + j - K = i * K + j by rw [Nat.succ_mul]; omega, flat_get K css i j hi (fun k hk => hK (k + 1) (by simpa using hk)) hj]
    rfl
/- What lies of a list that is told: an element's cells. -/
theorem list_elem {α : Type} {rep : World → (Nat → Prop) → Value → α → Prop} {mk : List Value → Value} {K : Nat} {W : World} {X : Nat → Prop} {lv : Value} {l : List α} (h : ListR rep mk K W X lv l) (k : Nat) (hk : k < l.length) :
    ∃ b off cap cs, lv = .slice (some ⟨b, off, none⟩) l.length cap ∧ X b ∧ cs.length = K ∧ rep W X (mk cs) l[k] ∧ ∀ j (hj : j < cs.length), W.cell? ⟨b, off + (k * K + j), none⟩ = some cs[j] := by
  obtain ⟨css, ⟨a, cap, h1, h2, h3, h5, h4⟩, hlen, hel⟩ := h
  rcases h4 with h4 | ⟨b, off, rfl, hx, hl, hc⟩
  · omega
  · have hk' : k < css.length := by omega
    obtain ⟨e1, e2⟩ := hel k hk' hk
    refine ⟨b, off, cap, css[k], h1, hx, e1, e2, fun j hj => ?_⟩
    have hfl := flat_get K css k j hk' (fun i hi => (hel i hi (by omega)).1) (by omega)
    rw [List.getElem?_eq_getElem hj] at hfl
    obtain ⟨hb, e⟩ := List.getElem?_eq_some_iff.1 hfl
    rw [hc _ hb, e]
theorem rep_below {α : Type} {rep : World → (Nat → Prop) → Value → α → Prop} (hok : RepOk rep) {B : Nat} {W W' : World} {v : Value} {x : α} (h : rep W (· < B) v x) (hb : Below B W W') : rep W' (· < B) v x :=
  hok.frame h hb.size (fun b k _ => hb.block b k)
structure Lt {α : Type} (T : α → List Nat → Prop) (B : Nat) (W0 W : World) (p : Nat) (v0 v : Value) (bs sz t : List Nat) (l : List α) (k : Nat) (told rest : List Nat) : Prop where
  wr : Wr B W p v (bs ++ sz ++ told)
  wm : Wm p W0 v0 W v
  many : ManyT T (l.drop k) rest
  all : t = told ++ rest
theorem Lt.item {α : Type} {T : α → List Nat → Prop} {B : Nat} {W0 W : World} {p : Nat} {v0 v : Value} {bs sz t : List Nat} {l : List α} {k : Nat} {told rest : List Nat} (h : Lt T B W0 W p v0 v bs sz t l k told rest) (hk : k < l.length) :
    ∃ a b, T l[k] a ∧ ManyT T (l.drop (k + 1)) b ∧ rest = a ++ b := by
  have := h.many
  rw [List.drop_eq_getElem_cons hk] at this
  exact this
theorem Lt.step {α : Type} {T : α → List Nat → Prop} {B : Nat} {W0 W W1 W2 : World} {p : Nat} {v0 v v2 : Value} {bs sz t : List Nat} {l : List α} {k : Nat} {told rest a b : List Nat} (h : Lt T B W0 W p v0 v bs sz t l k told rest) (hb : ManyT T (l.drop (k + 1)) b) (hab : rest = a ++ b)
    (h1 : Wm p W v W1 v) (h2 : Wr B W2 p v2 (bs ++ sz ++ told ++ a)) (h3 : Wm p W1 v W2 v2) : Lt T B W0 W2 p v0 v2 bs sz t l (k + 1) (told ++ a) b :=
  ⟨by rw [← List.append_assoc]; exact h2, h.wm.trans (h1.trans h3), hb, by rw [h.all, hab, List.append_assoc]⟩
theorem Lt.done {α : Type} {T : α → List Nat → Prop} {B : Nat} {W0 W : World} {p : Nat} {v0 v : Value} {bs sz t : List Nat} {l : List α} {k : Nat} {told rest : List Nat} (h : Lt T B W0 W p v0 v bs sz t l k told rest) (hk : l.length ≤ k) : told = t := by
  have := h.many
  rw [List.drop_eq_nil_of_le hk] at this
  rw [h.all, show rest = [] from this, List.append_nil]
end Go.Proofs.Ythlfbpadakoamab
/- package wire: a list that is told. -/
namespace Go.Proofs.Ythlfbpadakoamab
open Go.RowKit

theorem byteT_lt {n : Nat} {t : List Nat} (h : ByteT n t) : n < 1000000000000 := by have := h.1; omega
theorem three_of {cs : List Value} {b1 b2 b3 : Int} (h : mkAgg cs = .agg #[.int .i64 b1, .int .u64 b2, .int .u64 b3]) : cs = [.int .i64 b1, .int .u64 b2, .int .u64 b3] := by
  unfold mkAgg at h; injection h with h; have := congrArg Array.toList h; simpa using this
set_option maxHeartbeats 2000000 in
theorem list_bits {B : Nat} {W : World} {p : Nat} {v : Value} {bs sz t : List Nat} (lv : Value) (l : List _) (h : Wr B W p v bs) (hr : ListR BitsR mkAgg 3 W (· < B) lv l) (hS : ByteT l.length sz) (hT : ManyT NumT l t) (hl : bs.length + (sz ++ t).length ≤ slack) :
    Calls Try.prog 91 #[.func (Fn.func 44) #[.pointer (some ⟨p, 0, none⟩)] #[], lv, .func (Fn.func 50) #[.pointer (some ⟨p, 0, none⟩)] #[]] W fun e W' => Told B p W v bs (sz ++ t) e W' := by
  obtain ⟨la, lc, rfl⟩ := list_slice hr
  obtain ⟨n, hn⟩ : ∃ n, l.length = n := ⟨_, rfl⟩
  have HZ := hide (byte_sizes B W p v bs sz n h (by rw [← hn]; exact hS) (by simp at hl; omega))
  have HLen : Hid (n < 1000000000000) := hide (by rw [← hn]; exact byteT_lt hS)
  have HR := hide hr; have HT := hide hT; have HL := hide hl
  have HW := hide h
  have HN := hide hn
  rw [hn]
  clear h hr hS hT hl hn
  go_enter Try.func91, Try.ntmps91
  go_wp2_with fail
  refine HZ.out.mono ?_
  rintro e w1 ⟨v1, rfl, h1, m1⟩
  have H1 := hide h1; have M1 := hide m1
  clear h1 m1
  go_wp2
  go_loopw [14] (fun i wr => ∃ (k : Nat) (vk : Value) (told rest : List Nat), k ≤ n ∧ i = .int .i64 k ∧ Lt NumT B W wr p v vk bs sz t l k told rest) (fun i _ => n - (intOf i).toNat)
  case atStart => exact ⟨0, v1, [], t, Nat.zero_le _, rfl, by rw [List.append_nil]; exact H1.out, M1.out, HT.out, rfl⟩
  case round =>
    obtain ⟨k, vk, told, rest, hk, rfl, hL⟩ := hrel
    have hnn := HLen.out
    have L0 := hide hL
    clear hL
    have hBl : Below B W wr := L0.out.wm.below HW.out HW.out.le
    have HRk := hide (rep_below (ListR.ok bits_ok _ _) HR.out hBl)
    clear hBl
    by_cases hlt : k < n
    · have hkl : k < l.length := by rw [HN.out]; exact hlt
      obtain ⟨b, off, cap, cs, he, hX, hcs, hrep, hc⟩ := list_elem HRk.out k hkl
      injection he with he1 he2 he3
      subst he1
      clear he2 he3
      obtain ⟨x, hx⟩ : ∃ x, l[k] = x := ⟨_, rfl⟩
      rw [hx] at hrep
      obtain ⟨ta, tb, hta, htb, hab⟩ := L0.out.item hkl
      rw [hx] at hta
      have HREP0 := hide hrep
      obtain ⟨b1, b2, b3⟩ := x
      obtain rfl := three_of (show mkAgg cs = .agg #[.int .i64 b1, .int .u64 b2, .int .u64 b3] from hrep)
      have HREP := HREP0
      clear hrep HREP0
      have HC := hide hc
      have q0 := HC.out 0 (by simp)
      have q1 := HC.out 1 (by simp)
      have q2 := HC.out 2 (by simp)
      simp only [List.getElem_cons_zero, List.getElem_cons_succ, Nat.add_zero] at q0 q1 q2
      simp only [← Nat.add_assoc] at q0 q1 q2
      have HTA := hide hta; have HTB := hide htb; have HAB := hide hab
      have WA := hide (L0.out.wr.alloc (.cells #[.int .i64 b1, .int .u64 b2, .int .u64 b3] 35))
      have HI := hide (number_writes B _ p vk _ ta _ _ WA.out (rep_below bits_ok HREP.out ((Below.refl _ _).alloc L0.out.wr.le _)) hta (by have h1 := HL.out; have h2 := L0.out.all; rw [h2, hab] at h1; simp only [List.length_append] at h1 ⊢; omega))
      clear hta htb hab hc hcs HRk HREP HC hx hkl
      go_wp2_with fail
      refine HI.out.mono ?_
      rintro e w3 ⟨v3, rfl, h3, m3⟩
      have L3 := hide (L0.out.step HTB.out HAB.out (Wm.alloc _) h3 m3)
      clear h3 m3
      go_wp2
      go_roundw
      case rel => exact ⟨k + 1, v3, _, _, by omega, by go_num, L3.out⟩
      case measure => simp [intOf]; omega
    · obtain rfl : k = n := by omega
      have HD := hide (L0.out.done (by rw [HN.out]; exact Nat.le_refl _))
      go_wp2
      go_end0
      refine ⟨vk, rfl, ?_, L0.out.wm⟩
      have := L0.out.wr
      rw [HD.out, List.append_assoc] at this
      exact this
end Go.Proofs.Ythlfbpadakoamab
/- package wire: a list that is told. -/
namespace Go.Proofs.Ythlfbpadakoamab
open Go.RowKit

set_option maxHeartbeats 2000000 in
theorem list_int {B : Nat} {W : World} {p : Nat} {v : Value} {bs sz t : List Nat} (lv : Value) (l : List _) (h : Wr B W p v bs) (hr : ListR IntR mkOne 1 W (· < B) lv l) (hS : ByteT l.length sz) (hT : ManyT WholeT l t) (hl : bs.length + (sz ++ t).length ≤ slack) :
    Calls Try.prog 97 #[.func (Fn.func 44) #[.pointer (some ⟨p, 0, none⟩)] #[], lv, .func (Fn.func 46) #[.pointer (some ⟨p, 0, none⟩)] #[]] W fun e W' => Told B p W v bs (sz ++ t) e W' := by
  obtain ⟨la, lc, rfl⟩ := list_slice hr
  obtain ⟨n, hn⟩ : ∃ n, l.length = n := ⟨_, rfl⟩
  have HZ := hide (byte_sizes B W p v bs sz n h (by rw [← hn]; exact hS) (by simp at hl; omega))
  have HLen : Hid (n < 1000000000000) := hide (by rw [← hn]; exact byteT_lt hS)
  have HR := hide hr; have HT := hide hT; have HL := hide hl
  have HW := hide h
  have HN := hide hn
  rw [hn]
  clear h hr hS hT hl hn
  go_enter Try.func97, Try.ntmps97
  go_wp2_with fail
  refine HZ.out.mono ?_
  rintro e w1 ⟨v1, rfl, h1, m1⟩
  have H1 := hide h1; have M1 := hide m1
  clear h1 m1
  go_wp2
  go_loopw [14] (fun i wr => ∃ (k : Nat) (vk : Value) (told rest : List Nat), k ≤ n ∧ i = .int .i64 k ∧ Lt WholeT B W wr p v vk bs sz t l k told rest) (fun i _ => n - (intOf i).toNat)
  case atStart => exact ⟨0, v1, [], t, Nat.zero_le _, rfl, by rw [List.append_nil]; exact H1.out, M1.out, HT.out, rfl⟩
  case round =>
    obtain ⟨k, vk, told, rest, hk, rfl, hL⟩ := hrel
    have hnn := HLen.out
    have L0 := hide hL
    clear hL
    have hBl : Below B W wr := L0.out.wm.below HW.out HW.out.le
    have HRk := hide (rep_below (ListR.ok int_ok _ _) HR.out hBl)
    clear hBl
    by_cases hlt : k < n
    · have hkl : k < l.length := by rw [HN.out]; exact hlt
      obtain ⟨b, off, cap, cs, he, hX, hcs, hrep, hc⟩ := list_elem HRk.out k hkl
      injection he with he1 he2 he3
      subst he1
      clear he2 he3
      obtain ⟨x, hx⟩ : ∃ x, l[k] = x := ⟨_, rfl⟩
      rw [hx] at hrep
      obtain ⟨ta, tb, hta, htb, hab⟩ := L0.out.item hkl
      rw [hx] at hta
      have HREP0 := hide hrep
      obtain ⟨c0, rfl⟩ : ∃ c0, cs = [c0] := by
        match cs, hcs with
        | [c0], _ => exact ⟨c0, rfl⟩
      obtain rfl : c0 = .int .i64 x := hrep
      have HREP := HREP0
      clear HREP0
      have HC := hide hc
      have q0 := HC.out 0 (by simp)
      simp only [List.getElem_cons_zero, Nat.add_zero, Nat.mul_one] at q0
      have HTA := hide hta; have HTB := hide htb; have HAB := hide hab
      have WA := hide L0.out.wr
      have HI := hide (whole_writes B _ p vk _ ta _ _ WA.out HREP.out hta (by have h1 := HL.out; have h2 := L0.out.all; rw [h2, hab] at h1; simp only [List.length_append] at h1 ⊢; omega))
      clear hta htb hab hc hcs HRk HREP HC hx hkl
      go_wp2_with fail
      refine HI.out.mono ?_
      rintro e w3 ⟨v3, rfl, h3, m3⟩
      have L3 := hide (L0.out.step HTB.out HAB.out (Wm.refl _ _ _) h3 m3)
      clear h3 m3
      go_wp2
      go_roundw
      case rel => exact ⟨k + 1, v3, _, _, by omega, by go_num, L3.out⟩
      case measure => simp [intOf]; omega
    · obtain rfl : k = n := by omega
      have HD := hide (L0.out.done (by rw [HN.out]; exact Nat.le_refl _))
      go_wp2
      go_end0
      refine ⟨vk, rfl, ?_, L0.out.wm⟩
      have := L0.out.wr
      rw [HD.out, List.append_assoc] at this
      exact this
end Go.Proofs.Ythlfbpadakoamab
