/- Pieces of the proof: CeK. -/
import Derived.Test.YtbemfjdloeipmaaGreatDoorM20
/- package cells: New, of declarations whose arrays are known. -/
namespace Go.Proofs.YtbemfjdloeipmaaGreatDoor
open Go.RowKit

/- What an array's numbers may be. -/
structure ArG (a : Ar) : Prop where
  cn : a.cs.length ≤ 140737488355328
  ln : a.ls.length ≤ 140737488355328
  cr : ∀ b ∈ a.cs, NbR b
  lr : ∀ n ∈ a.ls, i64R n
  wr : i64R a.w
  rr : i64R a.rate
  br : i64R a.burst
  kr : 0 ≤ a.kind ∧ a.kind < 256
theorem ArN.r {W : World} {B : Nat} {a : Ar} {ca la : Option Addr} {cc lc : Nat} (h : ArN W B a ca la) (g : ArG a) : ArR W ⟨a, ca, cc, la, lc⟩ := ⟨rdN_ownR h.cs, rdZ_ownR h.ls, g.cn, g.ln, g.cr, g.lr, g.wr, g.rr, g.br, g.kr⟩
def full (a : Ar) (ca la : Option Addr) : ArL := ⟨a, ca, a.cs.length, la, a.ls.length⟩
theorem full_val (a : Ar) (ca la : Option Addr) : (full a ca la).val = arV a ca la := rfl
theorem arl_len (x : ArL) : x.cells.length = 7 := rfl
theorem arl_one (x : ArL) : ∀ u ∈ x.cells, u.oneCell' = true := ar_one x.a.name x.a.kind x.a.w x.a.rate x.a.burst (x.ca, x.a.cs.length, x.cc) (x.la, x.a.ls.length, x.lc)
theorem Tryz.infoAr : (Tryz.prog.info? 26).map (fun i => (i.zero, i.size, i.bytes)) = some (some zeroV, 7, 96) := by kernel_rfl
theorem ownR_kept {W W' : World} {B : Nat} {a : Option Addr} {t : TypeId} {cs : List Value} {row : Option Nat} (h : OwnR W B a t cs) (hg : W.grownBy W' row) (hne : ∀ g, row = some g → ∃ ds u, W.heap[g]? = some (.cells ds u (0, 0)) ∧ t ≠ u) : OwnR W' B a t cs := by
  rcases h with h | ⟨b, h1, h2, h3⟩
  · exact .inl h
  · refine .inr ⟨b, h1, h2, (hg.block b (lt_heap h3) (fun e => ?_)).trans h3⟩
    obtain ⟨ds, u, h4, h5⟩ := hne b e.symm
    rw [h3] at h4
    injection h4 with h4
    injection h4 with _ ht _
    exact h5 ht
theorem own_type {W : World} {B c n : Nat} {e : TypeId} {v : Value} {xs : List Value} (h : W.ownsRow B e c v n xs) : ∀ g, v.ownBlock = some g → ∃ ds, W.heap[g]? = some (.cells ds e (0, 0)) := fun g hg => by
  rcases h.2 with ⟨rfl, _⟩ | ⟨b, cap, cur, rfl, _, hcur, _⟩
  · cases hg
  · injection hg with hg; subst hg; exact ⟨cur, hcur⟩
theorem own_belowC {W W' : World} {B c n : Nat} {e : TypeId} {v : Value} {xs : List Value} (h : W.ownsRow B e c v n xs) (hb : Below W.heap.size W W') : W'.ownsRow B e c v n xs := by
  refine ⟨h.1, ?_⟩
  rcases h.2 with h0 | ⟨gr, cap, cur, rfl, hg, hcur, rest⟩
  · exact .inl h0
  · exact .inr ⟨gr, cap, cur, rfl, hg, (hb.block _ (Array.getElem?_eq_some_iff.1 hcur).1).trans hcur, rest⟩
/- Arrays of one's own. -/
structure As (w W : World) (v : Value) (xs : List ArL) : Prop where
  bl : Below w.heap.size w W
  own : W.ownsRow w.heap.size 26 7 v xs.length (flat ArL.cells xs)
  ok : ∀ x ∈ xs, ArN W w.heap.size x.a x.ca x.la ∧ ArG x.a ∧ x.cc = x.a.cs.length ∧ x.lc = x.a.ls.length
theorem As.start (w : World) : As w w (.slice none 0 0) [] := ⟨Below.refl _ _, World.ownsRow_nil _ _ _ _, fun x h => absurd h (by simp)⟩
theorem As.below {w W W' : World} {v : Value} {xs : List ArL} (h : As w W v xs) (hb : Below W.heap.size W W') : As w W' v xs := ⟨bstep h.bl hb, own_belowC h.own hb, fun x hx => ⟨(h.ok x hx).1.below hb, (h.ok x hx).2⟩⟩
theorem As.push {w W W2 : World} {v v' : Value} {xs : List ArL} {x : ArL} (h : As w W v xs) (hx : ArN W w.heap.size x.a x.ca x.la) (hg : ArG x.a) (hc : x.cc = x.a.cs.length) (hl : x.lc = x.a.ls.length)
    (ho : W2.ownsRow w.heap.size 26 7 v' (xs.length + 1) (flat ArL.cells xs ++ x.cells)) (hgr : W.grownBy W2 v.ownBlock) : As w W2 v' (xs ++ [x]) := by
  have ht := own_type h.own
  have key : ∀ {y : ArL}, ArN W w.heap.size y.a y.ca y.la → ArN W2 w.heap.size y.a y.ca y.la := fun hy =>
    ⟨ownR_kept hy.cs hgr (fun g e => by obtain ⟨ds, hd⟩ := ht g e; exact ⟨ds, _, hd, by decide⟩), ownR_kept hy.ls hgr (fun g e => by obtain ⟨ds, hd⟩ := ht g e; exact ⟨ds, _, hd, by decide⟩)⟩
  refine ⟨h.bl.grown hgr h.bl.size (fun k e => (h.own.lt k e).1), ?_, fun y hy => ?_⟩
  · rw [List.length_append, flat_append]
    have : flat ArL.cells [x] = x.cells := by simp [flat]
    rw [this]; exact ho
  · rcases List.mem_append.1 hy with hy | hy
    · exact ⟨key (h.ok y hy).1, (h.ok y hy).2⟩
    · have hy' : y = x := by simpa using hy
      subst hy'
      exact ⟨key hx, hg, hc, hl⟩
theorem wpList_appAr {w : World} {ops : Array Oper} {rest : List Oper} {o : Oper} {a : Act} {Q : Exit → Act → World → Prop} (hgd : o.guard = none) (s x : Operand) (ho : o.op = .call { callee := .builtin .append, args := #[s, x], argTypes := #[79, 79] })
    (B : Nat) (v : Value) (acc : List ArL) (y : ArL) (hs : a.eval s = v) (hown : w.ownsRow B 26 7 v acc.length (flat ArL.cells acc)) (p : Nat) (hx : a.eval x = .slice (some ⟨p, 0, none⟩) 1 1) (hB : w.heap[p]? = some (.cells y.cells.toArray 26 (0, 0))) (hl : acc.length ≤ 1000000) (hb : B ≤ w.heap.size)
    (h : ∀ v' w', w'.ownsRow B 26 7 v' (acc.length + 1) (flat ArL.cells acc ++ y.cells) → w.grownBy w' v.ownBlock → wpList Tryz.prog ops Q rest (a.put o.dst v') w') :
    wpList Tryz.prog ops Q (o :: rest) a w := by
  obtain ⟨i0, hi0, hz0, hz1, hz2⟩ := info_parts Tryz.infoAr
  refine wpList_append_own_at w hgd s x 79 ho B 26 i0 _ 7 96 Tryz.underlying79 hi0 hz0 hz1 hz2 rfl (by decide) v acc.length (flat ArL.cells acc) hs hown ⟨p, 0, none⟩ 1 1 y.cells hx rfl (fun j u hu => ?_) (arl_one y) (by unfold maxLen; omega) (by omega) hb ?_
  · rw [add0, blk_cell hB j]; exact hu
  · intro v' w' h1 h2 _ _
    exact h v' w' h1 h2
/- A declaration whose array is known. -/
structure De where
  cs : List Value
  a : Ar
structure DeOk (d : De) : Prop where
  len : d.cs.length = 15
  one : ∀ u ∈ d.cs, u.oneCell' = true
  fr : ∀ W : World, Calls Tryz.prog 129 #[.agg d.cs.toArray] W fun e w' => ∃ ca la, e = .returned (arV d.a ca la) ∧ ArN w' W.heap.size d.a ca la ∧ Below W.heap.size W w'
  g : ArG d.a
structure RdD (W : World) (p off : Nat) (ds : List De) : Prop where
  pl : p < W.heap.size
  rd : ∀ i (h : i < ds.length) j u, (ds[i].cs)[j]? = some u → W.cell? ⟨p, off + i * 15 + j, none⟩ = some u
theorem RdD.below {W W' : World} {p off : Nat} {ds : List De} (h : RdD W p off ds) (hb : Below W.heap.size W W') : RdD W' p off ds := ⟨Nat.lt_of_lt_of_le h.pl hb.size, fun i hi j u hu => (hb.cell (p := ⟨p, _, none⟩) h.pl).trans (h.rd i hi j u hu)⟩
def newA (ds : List De) : List Ar := (ds.map (·.a)).filter mayA
theorem newA_take (ds : List De) (k : Nat) (h : k < ds.length) : newA (ds.take (k + 1)) = newA (ds.take k) ++ (if mayA ds[k].a = true then [ds[k].a] else []) := by
  unfold newA
  rw [List.take_succ_eq_append_getElem h, List.map_append, List.filter_append]
  congr 1
  rw [List.map_cons, List.map_nil, List.filter_cons, List.filter_nil]
theorem newA_len (ds : List De) (k : Nat) : (newA (ds.take k)).length ≤ k := by
  unfold newA
  refine Nat.le_trans (List.length_filter_le _ _) ?_
  simp; omega
theorem aggDe : ∀ w, (isAgg 87).run Tryz.prog w = .ok true w := fun w => by kernel_rfl
theorem szDe : ∀ w, (sizeOf 87).run Tryz.prog w = .ok 15 w := fun w => by kernel_rfl
theorem szDe' {cs : List Value} (h : cs.length = 15) : ∀ w, (sizeOf 87).run Tryz.prog w = .ok cs.length w := fun w => by rw [h]; exact szDe w
set_option maxRecDepth 100000 in
set_option maxHeartbeats 8000000 in
theorem new_any (p off cap : Nat) (ds : List De) (w : World) (hr : RdD w p off ds) (hd : ∀ d ∈ ds, DeOk d) (hn : ds.length ≤ 1000000) :
    Calls Tryz.prog 21 #[.slice (some ⟨p, off, none⟩) ds.length cap] w fun e w' => ∃ v xs, e = .returned v ∧ xs.map (·.a) = newA ds ∧ As w w' v xs := by
  have HR := hide hr
  have HD := hide hd
  have HN := hide hn
  clear hr hd
  go_enter Tryz.func21, Tryz.ntmps21
  go_wp2
  go_loopw [3, 9] (fun v i wr => ∃ (k : Nat) (xs : List ArL), k ≤ ds.length ∧ i = .int .i64 k ∧ xs.map (·.a) = newA (ds.take k) ∧ As w wr v xs) (fun _ i _ => ds.length - (intOf i).toNat)
  case atStart => exact ⟨0, [], by omega, rfl, by simp [newA], As.start w⟩
  case round =>
    obtain ⟨k, xs, hk, rfl, hxs, has⟩ := hrel
    have HX := hide hxs
    have HA := hide has
    clear hxs has
    by_cases hlt : k < ds.length
    · have hlI : ((k : Int) < (ds.length : Int)) := by omega
      have hok := HD.out _ (List.getElem_mem hlt)
      have LN := hide hok.len
      have ON := hide hok.one
      have FR := hide hok.fr
      have GG := hide hok.g
      have RD := hide ((HR.out.below HA.out.bl).rd k hlt)
      have NT := hide (newA_take ds k hlt)
      have LX := hide (show xs.length ≤ 1000000 by have h1 := newA_len ds k; have h2 := congrArg List.length HX.out; rw [List.length_map] at h2; have := HN.out; omega)
      clear hok
      generalize ds[k] = d at *
      obtain ⟨cs, a⟩ := d
      simp only at LN ON FR GG RD NT
      go_wp2_with (first
        | (refine wpList_loadW rfl 87 _ rfl p (off + k * 15) cs rfl aggDe (szDe' LN.out) RD.out ?_)
        | (refine wpList_storeA rfl 87 _ _ rfl wr.heap.size cs _ 87 rfl rfl (szDe' LN.out) (heap_alloc_new _ _) LN.out.symm ON.out ?_; intro w5 hw5; have HW5 := hide hw5; clear hw5; have R5 : Hid (w5.heap[wr.heap.size]? = some (.cells cs.toArray 87 (0, 0))) := (by rw [HW5.out]; exact got0 (heap_alloc_new _ _) LN.out.symm))
        | (refine wpList_loadA rfl 87 _ rfl wr.heap.size cs 87 rfl aggDe (szDe' LN.out) R5.out ?_))
      have B5 : Hid (Below wr.heap.size wr w5) := by
        obtain ⟨O, hO⟩ : ∃ O, w5 = setAll wr.heap.size (wr.alloc O) 0 cs := ⟨_, HW5.out⟩
        rw [hO]
        exact (below1 wr O).trans ((fr_all _ _ _ _).below (fun b e => Nat.le_of_eq e.symm) (below1 wr O).size)
      refine (FR.out _).mono ?_
      rintro e w6 ⟨ca, la, rfl, hn6, hb6⟩
      have B6 := hide (bstep B5.out hb6)
      have N6 := hide (hn6.mono (B' := w.heap.size) (Nat.le_trans HA.out.bl.size B5.out.size))
      have HM : Hid (∀ W, Below w6.heap.size w6 W → _) := fun W hb => mayBe_any (full a ca la) W ((N6.out.below hb).r GG.out)
      clear hn6 hb6 HW5 R5 B5 RD FR LN ON
      have E1 : (full a ca la).val = .agg #[.string a.name, .int .u8 a.kind, .int .i64 a.w, .int .i64 a.rate, .int .i64 a.burst, .slice ca a.cs.length a.cs.length, .slice la a.ls.length a.ls.length] := rfl
      have E2 : Hid ((full a ca la).cells = [.string a.name, .int .u8 a.kind, .int .i64 a.w, .int .i64 a.rate, .int .i64 a.burst, .slice ca a.cs.length a.cs.length, .slice la a.ls.length a.ls.length]) := rfl
      have E3 : Hid ((full a ca la).a = a) := rfl
      rw [E1] at HM
      simp only [full] at HM
      unfold arV
      clear E1
      have HP : Hid (∀ {W W2 v v'}, As w W v xs → ArN W w.heap.size a ca la → W2.ownsRow w.heap.size 26 7 v' (xs.length + 1) (flat ArL.cells xs ++ (full a ca la).cells) → W.grownBy W2 v.ownBlock → As w W2 v' (xs ++ [full a ca la])) := fun h1 h2 h3 h4 => h1.push (x := full a ca la) h2 GG.out rfl rfl h3 h4
      generalize mayA a = t at *
      cases t
      · go_wp2_with (go_at_call 130; refine (HM.out _ (below1 _ _)).mono ?_; rintro e w7 ⟨rfl, hb7⟩; have B7 := hide (bstep (below1 _ _) hb7); clear hb7)
        have A7 := hide (HA.out.below (bstep B6.out B7.out))
        go_roundw
        case rel => exact ⟨k + 1, xs, by omega, by go_num, by rw [NT.out, HX.out]; simp, A7.out⟩
        case measure => simp [intOf]; omega
      · go_wp2_with (first
          | (go_at_call 130; refine (HM.out _ (below1 _ _)).mono ?_; rintro e w7 ⟨rfl, hb7⟩; have B7 := hide (bstep (below1 _ _) hb7); have k7 := heap_below hb7 (heap_alloc_new _ _); obtain ⟨p0, p1, p2, p3, p4, p5, p6⟩ := at7 k7; have A7 := hide (HA.out.below (bstep B6.out B7.out)); have N7 := hide (N6.out.below B7.out); have A8 := hide (A7.out.below (below1 w7 (.cells #[.string a.name, .int .u8 a.kind, .int .i64 a.w, .int .i64 a.rate, .int .i64 a.burst, .slice ca a.cs.length a.cs.length, .slice la a.ls.length a.ls.length] 26))); have N8 := hide (N7.out.below (below1 w7 (.cells #[.string a.name, .int .u8 a.kind, .int .i64 a.w, .int .i64 a.rate, .int .i64 a.burst, .slice ca a.cs.length a.cs.length, .slice la a.ls.length a.ls.length] 26))); clear hb7 k7)
          | (refine wpList_appAr rfl _ _ rfl w.heap.size _ xs (full a ca la) rfl A8.out.own w7.heap.size rfl (heap_alloc_new w7 _) LX.out A8.out.bl.size ?_; intro v9 w9 h9 g9; have A9 := hide (HP.out A8.out N8.out h9 g9); clear h9 g9))
        go_roundw
        case rel => exact ⟨k + 1, _, by omega, by go_num, by rw [NT.out, List.map_append, HX.out]; simp [E3.out], A9.out⟩
        case measure => simp [intOf]; omega
    · obtain rfl : k = ds.length := by omega
      rw [List.take_length] at HX
      go_wp2
      go_ret
      exact ⟨_, xs, rfl, HX.out, HA.out⟩
end Go.Proofs.YtbemfjdloeipmaaGreatDoor
