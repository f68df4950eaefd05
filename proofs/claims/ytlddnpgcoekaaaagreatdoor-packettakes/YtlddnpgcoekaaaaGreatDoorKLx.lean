/- PacketTakes, walked. -/
import Derived.Test.YtlddnpgcoekaaaaGreatDoorKLw
namespace Go.Proofs.YtlddnpgcoekaaaaGreatDoor
open Go.RowKit

set_option maxRecDepth 100000 in
theorem takes_long (a : Option Addr) (n cap : Nat) (a2 : Option Addr) (m cap2 : Nat) (w : World) (h : 100000 < n ∨ 2000 < m) : Calls Tryz.prog 3 #[.slice a n cap, .slice a2 m cap2] w fun e w' => e = .returned (.bool true) ∧ Below w.heap.size w w' := by
  by_cases h1 : 100000 < n
  · have i1 : (100000 : Int) < (n : Int) := by omega
    clear h
    go_enter Tryz.func3, Tryz.ntmps3
    go_wp2
    go_ret
    exact ⟨rfl, Below.refl _ _⟩
  · have i1 : ¬ (100000 : Int) < (n : Int) := by omega
    have i2 : (2000 : Int) < (m : Int) := by omega
    clear h
    go_enter Tryz.func3, Tryz.ntmps3
    go_wp2
    go_ret
    exact ⟨rfl, Below.refl _ _⟩
/- whole numbers that can be read. -/
def RdInt (W : World) (a : Option Addr) (L : List Int) : Prop := L = [] ∨ ∃ b off, a = some ⟨b, off, none⟩ ∧ b < W.heap.size ∧ ∀ i (h : i < L.length), W.cell? ⟨b, off + i, none⟩ = some (.int .i64 L[i])
theorem RdInt.get {w W : World} {a : Option Addr} {L : List Int} (h : RdInt w a L) (hb : Below w.heap.size w W) {i : Nat} (hi : i < L.length) : ∃ b off, a = some ⟨b, off, none⟩ ∧ W.cell? ⟨b, off + i, none⟩ = some (.int .i64 L[i]) := by
  rcases h with rfl | ⟨b, off, e, hl, hc⟩
  · simp at hi
  · exact ⟨b, off, e, (hb.cell (p := ⟨b, off + i, none⟩) hl).trans (hc i hi)⟩
theorem Bok.fresh {W : World} {B g n : Nat} {vb u : Value} {hs : List Hb} {ys : List Nat} (h : Bok W B g vb n hs) {W' : World} (ho : Own8 W' W.heap.size u ys) : u.ownBlock ≠ some g ∧ (∀ b, u.ownBlock = some b → vb.ownBlock ≠ some b) ∧ ∀ x ∈ hs, ∀ b, x.v.ownBlock = some b → u.ownBlock ≠ some b := by
  have hu : ∀ b, u.ownBlock = some b → W.heap.size ≤ b := fun b e => (World.ownsRow.lt ho b e).1
  refine ⟨fun e => ?_, fun b e e2 => ?_, fun x hx b e e2 => ?_⟩
  · have := hu g e; have := h.bk.lt; omega
  · have := hu b e; have := (h.bk.vlt b e2).2; omega
  · have := hu b e2; have := (World.ownsRow.lt (h.ow x hx) b e).2; omega
theorem two_alloc (W : World) (o : Obj) (cs : Array Value) (t : TypeId) : ((W.alloc o).alloc (.cells cs t)).heap[W.heap.size + 1]? = some (.cells cs t (0, 0)) := by
  have := heap_alloc_new (W.alloc o) (.cells cs t)
  rw [World.size_alloc] at this; exact this
theorem bx_next {W W' : World} {b : Nat} {o : Obj} (h : W.heap[b]? = some o) (hb : Below W.heap.size W W') : W'.heap[b]? = some o := (hb.block b (Array.getElem?_eq_some_iff.1 h).1).trans h
/- What is left of it behind Apart. -/
structure Sf (w W : World) (M g1 : Nat) (a : Option Addr) (cap g2 : Nat) (v : Value) (xs : List Nat) (pc pr : Value) (o : Option Nat) : Prop where
  bl : Below w.heap.size w W
  sd : SD W w.heap.size xs pc pr g1 a cap g2 v (mk2 o o)
  z : W.cell? ⟨M, 2, none⟩ = some (.bool false)
theorem Sf.next {w W W' : World} {M g1 : Nat} {a : Option Addr} {cap g2 : Nat} {v : Value} {xs : List Nat} {pc pr : Value} {o : Option Nat} (h : Sf w W M g1 a cap g2 v xs pc pr o) (hb : Below W.heap.size W W') : Sf w W' M g1 a cap g2 v xs pc pr o :=
  have hf : Fr (fun _ => False) W W' := Fr.ofBelow hb
  ⟨h.bl.trans (hb.mono h.bl.size), h.sd.fr hf (fun _ _ e => e), hf.cell h.z (fun e => e)⟩
theorem Sf.zero {w W : World} {M g1 : Nat} {a : Option Addr} {cap g2 : Nat} {v : Value} {xs : List Nat} {pc pr : Value} {o : Option Nat} (h : Sf w W M g1 a cap g2 v xs pc pr o) : Nope W (.pointer (some ⟨M, 0, none⟩)) := .inr ⟨M, rfl, h.z⟩
theorem St.apart {w W W' : World} {M g1 : Nat} {a : Option Addr} {cap g2 : Nat} {v : Value} {xs : List Nat} {pc pr : Value} {o : Option Nat} {vb : Value} {n : Nat} {hs : List Hb} (h : St w W M g1 a cap g2 v xs pc pr o o vb n hs) (hf : Fr (GE hs vb) W W') : Sf w W' M g1 a cap g2 v xs pc pr o := by
  have hE : ∀ b, GE hs vb b → M + 1 ≤ b := fun b k => by
    rcases k with ⟨x, hx, k⟩ | k
    · exact (World.ownsRow.lt (h.bk.ow x hx) b k).1
    · exact (h.bk.bk.vlt b k).1
  have hW := h.mw
  exact ⟨h.bl.trans ((hf.below hE (by omega)).mono (by have := h.wM; omega)), h.sd.fr hf (fun b hb e => by have := h.ft b hb; have := hE b e; omega), hf.cell h.z (fun e => by have := hE M e; omega)⟩
theorem own_soft {W : World} {B g n cap : Nat} {xs : List Nat} (h : Own8 W B (.slice (some ⟨g, 0, none⟩) n cap) xs) (k : Nat) : W.frozen? ⟨g, k, none⟩ = false := by
  rcases h.2 with ⟨h0, _⟩ | ⟨gr, gc, cur, e, _, hcur, _⟩
  · cases h0
  · injection e with e _ _
    injection e with e
    injection e with e _ _
    subst e
    unfold World.frozen?; simp only [hcur]; simp
theorem sd_over {W W' : World} {B gt : Nat} {xs : List Nat} {pc pr : Value} {g1 : Nat} {a : Option Addr} {cap g2 : Nat} {v : Value} (h : SD W B xs pc pr g1 a cap g2 v (mk2 (StO xs) (StO xs))) (hf : Fr (fun b => b = gt) W W') (hn : ∀ b, FtB g1 a xs.length cap g2 v b → xs.length ≤ 65536 → gt < b) : SD W' B xs pc pr g1 a cap g2 v (mk2 (StO xs) (StO xs)) := by
  by_cases hl : xs.length ≤ 65536
  · exact h.fr hf (fun b hb e => by have := hn b hb hl; have e' : b = gt := e; omega)
  · have e : StO xs = none := by unfold StO; rw [if_neg hl]
    rw [e] at h ⊢
    exact h
theorem St.start {w W : World} {g1 : Nat} {a : Option Addr} {cap g2 : Nat} {v : Value} {xs : List Nat} {pc pr : Value} {o : Option Nat} (bl : Below w.heap.size w W) (sd : SD W w.heap.size xs pc pr g1 a cap g2 v (mk2 o o)) (lo : w.heap.size ≤ g1 ∧ w.heap.size ≤ g2) (ft : ∀ b, FtB g1 a xs.length cap g2 v b → b < W.heap.size) (t : TypeId) :
    St w ((W.alloc (.cells #[.int .i64 0, .slice none 0 0, .bool false] 36)).alloc (.cells bk0 t)) W.heap.size g1 a cap g2 v xs pc pr o o (.slice none 0 0) 0 [] := by
  have s1 : (W.alloc (.cells #[.int .i64 0, .slice none 0 0, .bool false] 36)).heap.size = W.heap.size + 1 := World.size_alloc _ _
  have b1 : Below W.heap.size W (W.alloc (.cells #[.int .i64 0, .slice none 0 0, .bool false] 36)) := (Below.refl _ W).alloc (Nat.le_refl _) _
  have b2 := b1.alloc (o := .cells bk0 t) (by rw [s1]; omega)
  have hz := heap_alloc_new W (.cells #[.int .i64 0, .slice none 0 0, .bool false] 36)
  have hz2 : ((W.alloc (.cells #[.int .i64 0, .slice none 0 0, .bool false] 36)).alloc (.cells bk0 t)).heap[W.heap.size]? = some (.cells #[.int .i64 0, .slice none 0 0, .bool false] 36 (0, 0)) := (heap_alloc_old _ _ (by rw [s1]; omega)).trans hz
  have hk := heap_alloc_new (W.alloc (.cells #[.int .i64 0, .slice none 0 0, .bool false] 36)) (.cells bk0 t)
  rw [s1] at hk
  refine ⟨bl.trans (b2.mono bl.size), bl.size, sd.fr (E := fun _ => False) (Fr.ofBelow b2) (fun _ _ e => e), lo, ft, ?_, Bok.new (Nat.le_refl _) ⟨t, hk⟩⟩
  unfold World.cell?; simp only [hz2]; rfl
set_option maxRecDepth 100000 in
set_option maxHeartbeats 8000000 in
theorem takes_walk (a : Option Addr) (cap : Nat) (xs : List Nat) (a2 : Option Addr) (cap2 : Nat) (L : List Int) (w : World) (hr : RdA w a xs) (hn : a = none → cap = 0) (hx : ∀ y ∈ xs, y < 256) (hl : xs.length ≤ 100000) (hL : L.length ≤ 2000) (hI : RdInt w a2 L) :
    Calls Tryz.prog 3 #[.slice a xs.length cap, .slice a2 L.length cap2] w fun e w' => e = .returned (.bool true) ∧ Below w.heap.size w w' := by
  have i1 : ¬ (100000 : Int) < (xs.length : Int) := by omega
  have i2 : ¬ (2000 : Int) < (L.length : Int) := by omega
  have HTw := hide (twin_any a cap xs w (by omega) hr)
  have HR := hide hr; have HNn := hide hn; have HX := hide hx; have HI := hide hI
  clear hr hn hx hI
  go_enter Tryz.func3, Tryz.ntmps3
  go_wp2_with fail
  refine HTw.out.mono ?_
  rintro e w1 ⟨gt, c, rfl, ho, hcc, hgt, hb1⟩
  have OT := hide ho
  have B1 := hide hb1
  have hgl : gt < w1.heap.size := (World.ownsRow.lt ho gt rfl).2
  have hcm : c ≤ 9223372036854775807 := by
    rcases ho.2 with ⟨h0, _⟩ | ⟨_, gc, _, e, _, _, _, h2, _⟩
    · cases h0
    · injection e with _ _ e; unfold maxLen at h2; omega
  have RT : Hid (RdA w1 (some ⟨gt, 0, none⟩) xs) := by
    refine .inr ⟨gt, 0, rfl, hgl, fun i hi => ?_⟩
    have h := own_cell8 ho i (by rw [List.length_append]; simp; omega)
    rw [Nat.zero_add]
    rw [List.getElem_append_left hi] at h
    exact h
  have HN1 := hide (new_one (some ⟨gt, 0, none⟩) c xs w1 RT.out (fun e => by cases e))
  clear ho hb1 HTw
  go_wp2_with fail
  refine HN1.out.mono ?_
  rintro e w2 ⟨p1, rfl, hnl1, hN1, hb2⟩
  have N1 := hide hN1
  have B2 := hide hb2
  have B12 := hide (B1.out.trans (hb2.mono B1.out.size))
  have HN2 := hide (new_two a cap xs w2 (HR.out.below B12.out) HNn.out)
  clear hN1 hb2 HN1
  go_wp2_with fail
  refine HN2.out.mono ?_
  rintro e w3 ⟨p2, rfl, hnl2, hN2, hb3⟩
  have B3 := hide hb3
  have B13 := hide (B12.out.trans (hb3.mono B12.out.size))
  have BT3 : Hid (Below w1.heap.size w1 w3) := B2.out.trans (hb3.mono B2.out.size)
  obtain ⟨g1, a', cap', g2, v, hsd, hlo, hft⟩ := sd_start (w := w) N1.out hN2 (Nat.lt_of_le_of_lt hgt hgl) B2.out hb3
  have SD3 := hide hsd; have LO := hide hlo; have FT := hide hft
  have HLf := hide (left_yes gt c a cap xs w3 w.heap.size (by omega) (HR.out.below B13.out) hcc hcm (OT.out.below BT3.out))
  clear hN2 hb3 hsd hlo hft HN2 N1 B12
  generalize erO xs = er at *
  generalize decide (65536 < xs.length) = nb at *
  go_wp2_with fail
  refine HLf.out.mono ?_
  rintro e w4 ⟨rfl, hb4⟩
  have B4 := hide (B13.out.trans (hb4.mono B13.out.size))
  have OT4 := hide (OT.out.below (BT3.out.trans (hb4.mono BT3.out.size)))
  have B34 := hide hb4
  clear hb4 HLf
  go_wp2
  go_loopw [10] (fun vi wr => ∃ (k : Nat) (ys : List Nat), vi = .int .i64 (k : Int) ∧ k ≤ xs.length ∧ ys.length = xs.length + 1 ∧ Hid (Own8 wr w.heap.size (.slice (some ⟨gt, 0, none⟩) (xs.length + 1) c) ys) ∧ Hid (Fr (fun b => b = gt) w4 wr)) (fun vi _ => xs.length - (intOf vi).toNat)
  case atStart => exact ⟨0, _, rfl, Nat.zero_le _, by simp, OT4.out, Fr.refl _ _⟩
  case round =>
    obtain ⟨k, ys, rfl, hk, hys, HO, HF⟩ := hrel
    by_cases hlt : k < xs.length
    · have hI1 : (k : Int) < (xs.length : Int) := by omega
      have ck := own_cell8 HO.out k (by omega)
      have fk : wr.frozen? ⟨gt, k, none⟩ = false := own_soft HO.out k
      have HO2 := hide (HO.out.set k 238)
      have HF2 : Hid (Fr (fun b => b = gt) w4 (wr.setCell ⟨gt, k, none⟩ (.int .u8 ((238 : Nat) : Int)))) := HF.out.set _ _ rfl
      go_wp2
      exact ⟨⟨k + 1, _, by congr 1, by omega, by rw [List.length_set]; exact hys, HO2, HF2⟩, by simp [intOf]; omega⟩
    · have hI1 : ¬ (k : Int) < (xs.length : Int) := by omega
      obtain rfl : k = xs.length := by omega
      have BW : Hid (Below w.heap.size w wr) := B4.out.trans (HF.out.below (fun b e => by have e' : b = gt := e; omega) B4.out.size)
      have ST0 := hide (St.start BW.out (sd_over (gt := gt) (SD3.out.fr (E := fun _ => False) (Fr.ofBelow B34.out) (fun _ _ e => e)) HF.out (fun b hb h65 => by have := (FT.out b hb).2 h65; omega)) LO.out (fun b hb => by have := (FT.out b hb).1; have h1 := B34.out.size; have h2 := HF.out.size; omega) 68)
      clear HO HF SD3 B34 OT4 hlt hys
      go_wp2_with (refine wpList_storeZ rfl 68 _ _ rfl _ bk0 68 rfl rfl bk_size (two_alloc _ _ _ _) bk0_one ?_)
      have hMw : w.heap.size ≤ wr.heap.size := BW.out.size
      clear BW
      obtain ⟨M, hM⟩ : ∃ M, wr.heap.size = M := ⟨_, rfl⟩
      rw [hM] at ST0 ⊢
      unfold bk0 at ST0
      generalize ((wr.alloc (.cells #[.int .i64 0, .slice none 0 0, .bool false] 36)).alloc (.cells #[.int .i64 0, .slice none 0 0, .slice none 0 0, .slice none 0 0, .slice none 0 0, .slice none 0 0, .slice none 0 0, .slice none 0 0, .slice none 0 0, .slice none 0 0, .slice none 0 0, .slice none 0 0, .slice none 0 0, .slice none 0 0, .slice none 0 0, .slice none 0 0, .slice none 0 0, .slice none 0 0, .slice none 0 0, .slice none 0 0, .slice none 0 0, .slice none 0 0, .slice none 0 0, .slice none 0 0, .slice none 0 0, .slice none 0 0, .slice none 0 0, .slice none 0 0, .slice none 0 0, .slice none 0 0, .slice none 0 0] 68)) = W0 at *
      clear hM hMw
      generalize StO xs = o0 at *
      go_loopw [13] (fun vi wq => ∃ (i : Nat) (o : Option Nat) (vb : Value) (n : Nat) (hs : List Hb), vi = .int .i64 (i : Int) ∧ i ≤ L.length ∧ n ≤ i ∧ hs.length ≤ i ∧ Hid (St w wq M g1 a' cap' g2 v xs (.pointer p1) (.pointer p2) o o vb n hs)) (fun vi _ => L.length - (intOf vi).toNat)
      case atStart => exact ⟨0, o0, _, 0, [], rfl, Nat.zero_le _, Nat.le_refl _, Nat.le_refl _, ST0.out⟩
      case round =>
        obtain ⟨i, o, vb, n, hs, rfl, hi, hn, hh, HS⟩ := hrel
        by_cases hlt : i < L.length
        · have hI1 : (i : Int) < (L.length : Int) := by omega
          obtain ⟨b2, off2, rfl, cI⟩ := HI.out.get HS.out.bl hlt
          have HT1 := hide (sd_take1 HS.out.sd HX.out L[i])
          have HNo := hide (tkO_none xs L[i] o)
          have HGx : Hid (∀ W, Below w.heap.size w W → W.cell? ⟨b2, off2 + i, none⟩ = some (.int .i64 L[i])) := fun W hW => by
            obtain ⟨b3, off3, e3, c3⟩ := HI.out.get hW hlt
            cases e3; exact c3
          have HT2 : Hid (∀ W o1, SD W w.heap.size xs (.pointer p1) (.pointer p2) g1 a' cap' g2 v (mk2 o1 o) → (o1 = none ↔ o = none) → _) := fun W o1 h ho => sd_take2 h ho HX.out L[i]
          have HTz : Hid (∀ W, Nope W (.pointer (some ⟨M, 0, none⟩)) → _) := fun W h => take_no h L[i]
          unfold ansT at HT1 HT2
          generalize L[i] = li at *
          generalize hr : tkO xs li o = r at *
          clear hr
          obtain ⟨q1, q2, q3, q4⟩ := r
          dsimp only at HT1 HT2 HNo
          generalize wHi q2 = qh at *
          generalize wLo q2 = ql at *
          go_wp2_with fail
          refine HT1.out.mono ?_
          rintro e u1 ⟨rfl, hs1, hf1⟩
          have S1 := hide (HS.out.move (.inl rfl) hf1 hs1)
          have S2 := hide (S1.out.next ((Below.refl _ u1).alloc (Nat.le_refl _) (.cells #[.int .i64 q1, .int .u64 qh, .int .u64 ql] 71)))
          have X2 := hide (heap_alloc_new u1 (.cells #[.int .i64 q1, .int .u64 qh, .int .u64 ql] 71))
          have cI1 := HGx.out _ S2.out.bl
          have HM1 : Hid (M + 2 ≤ u1.heap.size) := S1.out.mw
          have HG2 : Hid (g2 < M) := S1.out.ft g2 (.inr (.inl rfl))
          clear hs1 hf1 HT1 cI HS S1
          go_wp2_with fail
          refine (HT2.out _ _ S2.out.sd HNo.out).mono ?_
          rintro e u3 ⟨rfl, hs3, hf3⟩
          have S3 := hide (S2.out.move (.inr rfl) hf3 hs3)
          have X3 : Hid (u3.heap[u1.heap.size]? = some (.cells #[.int .i64 q1, .int .u64 qh, .int .u64 ql] 71 (0, 0))) := (hf3.block _ (by rw [World.size_alloc]; omega) (fun e => by have e' : u1.heap.size = g2 := e; have := HG2.out; have := HM1.out; omega)).trans X2.out
          have S4 := hide (S3.out.next ((Below.refl _ u3).alloc (Nat.le_refl _) (.cells #[.int .i64 q1, .int .u64 qh, .int .u64 ql] 71)))
          have X4 := hide (bx_next X3.out ((Below.refl _ u3).alloc (Nat.le_refl _) (.cells #[.int .i64 q1, .int .u64 qh, .int .u64 ql] 71)))
          have Y4 := hide (heap_alloc_new u3 (.cells #[.int .i64 q1, .int .u64 qh, .int .u64 ql] 71))
          have cI3 := HGx.out _ S4.out.bl
          clear hs3 hf3 HT2 cI1 S2 X2 S3 X3
          go_wp2_with fail
          refine (HTz.out _ S4.out.zero).mono ?_
          rintro e u5 ⟨rfl, hb5⟩
          have S5 := hide (S4.out.next hb5)
          have X5 := hide (bx_next X4.out hb5)
          have Y5 := hide (bx_next Y4.out hb5)
          have bA := (Below.refl _ u5).alloc (Nat.le_refl _) (.cells #[.int .i64 0, .int .u64 0, .int .u64 0] 71)
          have S6 := hide (S5.out.next bA)
          obtain ⟨x0, x1, x2⟩ := cells_box (bx_next X5.out bA)
          obtain ⟨y0, y1, y2⟩ := cells_box (bx_next Y5.out bA)
          have Z6 := hide (heap_alloc_new u5 (.cells #[.int .i64 0, .int .u64 0, .int .u64 0] 71))
          have HLs := hide (fun W (h : SD W w.heap.size xs (.pointer p1) (.pointer p2) g1 a' cap' g2 v (mk2 q4 q4)) => sd_left h)
          clear hb5 bA HTz cI3 S4 X4 Y4 S5 X5 Y5 HGx
          go_wp2_with fail
          refine (HLs.out _ S6.out.sd).1.mono ?_
          rintro e u7 ⟨rfl, hb7⟩
          have S7 := hide (S6.out.next hb7)
          have Z7 := hide (bx_next Z6.out hb7)
          clear hb7 S6 Z6 x0 x1 x2 y0 y1 y2
          go_wp2_with fail
          refine (HLs.out _ S7.out.sd).2.1.mono ?_
          rintro e u8 ⟨rfl, hb8⟩
          have S8 := hide (S7.out.next hb8)
          have Z8 := hide (bx_next Z7.out hb8)
          clear hb8 S7 Z7
          go_wp2_with fail
          refine (HLs.out _ S8.out.sd).2.2.1.mono ?_
          rintro e u9 ⟨rfl, hb9⟩
          have S9 := hide (S8.out.next hb9)
          have Z9 := hide (bx_next Z8.out hb9)
          clear hb9 S8 Z8
          go_wp2_with fail
          refine (HLs.out _ S9.out.sd).2.2.2.1.mono ?_
          rintro e u10 ⟨rfl, hb10⟩
          have S10 := hide (S9.out.next hb10)
          obtain ⟨z0, z1, z2⟩ := cells_box (bx_next Z9.out hb10)
          have HRl : Hid ((rsO xs q4).length ≤ 100000) := by
            unfold rsO Hid
            cases q4 with
            | none => simp
            | some t => simp only [List.length_drop]; omega
          clear hb10 S9 Z9
          generalize lfO xs q4 = lf at *
          generalize atO q4 = at4 at *
          by_cases hm : i % 100 = 0
          · have hmI : ((i : Int)).tmod 100 = 0 := by rw [Int.tmod_eq_emod_of_nonneg (by omega)]; omega
            go_wp2_with fail
            refine (HLs.out _ S10.out.sd).2.2.2.2.1.mono ?_
            rintro e u11 ⟨ua, rfl, hoA, hb11⟩
            obtain ⟨aA, cA, rfl, _, _, _⟩ := hoA.shape
            have S11 := hide (S10.out.next hb11)
            have OA := hide hoA.rd.2
            clear hb11 hoA S10 z0 z1 z2 hmI
            go_wp2_with fail
            refine (HLs.out _ S11.out.sd).2.2.2.2.2.mono ?_
            rintro e u12 ⟨uc, rfl, hoC, hb12⟩
            obtain ⟨aC, cC, rfl, _, _, _⟩ := hoC.shape
            have S12 := hide (S11.out.next hb12)
            have HSm := hide (same_rd (rsO xs q4) (by have := HRl.out; omega) aA aC cA cC u12 (OA.out.below hb12) hoC.rd.2)
            clear hb12 hoC S11 OA
            go_wp2_with fail
            refine HSm.out.mono ?_
            rintro e u13 ⟨rfl, hb13⟩
            have S13 := hide (S12.out.next hb13)
            clear hb13 S12 HSm
            by_cases h5 : i < 500
            · have h5I : (i : Int) < 500 := by omega
              by_cases h50 : xs.length < 5000
              · have h50I : (xs.length : Int) < 5000 := by omega
                have HLk : Hid (hs.length < 1000 ∧ n < 1000) := ⟨by omega, by omega⟩
                go_wp2_with fail
                refine (HLs.out _ S13.out.sd).2.2.2.2.1.mono ?_
                rintro e u14 ⟨ub, rfl, hoB, hb14⟩
                obtain ⟨fr1, fr2, fr3⟩ := S13.out.bk.fresh hoB
                have S14 := hide (S13.out.next hb14)
                have OB : Hid (Own8 u14 (M + 1) ub (rsO xs q4)) := own8_lo hoB (by have := S13.out.mw; omega)
                have HBy := hide (bytes_bok S14.out.bk HLk.out.1 HLk.out.2 OB.out (by have := HRl.out; omega) fr1 fr2 fr3)
                clear hb14 hoB fr1 fr2 fr3
                go_wp2_with fail
                refine HBy.out.mono ?_
                rintro e u15 ⟨rfl, vb', hk15, hf15, _⟩
                have S15 := hide (S14.out.tell hf15 hk15)
                clear hk15 hf15 HBy S14 OB S13
                go_wp2
                exact ⟨⟨i + 1, q4, vb', n + 1, _, by congr 1, by omega, by omega, by rw [List.length_append, List.length_singleton]; omega, S15⟩, by simp [intOf]; omega⟩
              · have h50I : ¬ (xs.length : Int) < 5000 := by omega
                go_wp2
                exact ⟨⟨i + 1, q4, vb, n, hs, by congr 1, by omega, by omega, by omega, S13⟩, by simp [intOf]; omega⟩
            · have h5I : ¬ (i : Int) < 500 := by omega
              go_wp2
              exact ⟨⟨i + 1, q4, vb, n, hs, by congr 1, by omega, by omega, by omega, S13⟩, by simp [intOf]; omega⟩
          · have hmI : (((i : Int)).tmod 100 == 0) = false := by rw [beq_eq_false_iff_ne, Int.tmod_eq_emod_of_nonneg (by omega)]; omega
            go_wp2
            exact ⟨⟨i + 1, q4, vb, n, hs, by congr 1, by omega, by omega, by omega, S10⟩, by simp [intOf]; omega⟩
        · have hI1 : ¬ (i : Int) < (L.length : Int) := by omega
          have HLs := hide (fun W (h : SD W w.heap.size xs (.pointer p1) (.pointer p2) g1 a' cap' g2 v (mk2 o o)) => sd_left h)
          have HRl : Hid ((rsO xs o).length ≤ 100000) := by
            unfold rsO Hid
            cases o with
            | none => simp
            | some t => simp only [List.length_drop]; omega
          go_wp2_with fail
          refine (HLs.out _ HS.out.sd).2.2.2.2.1.mono ?_
          rintro e u11 ⟨ua, rfl, hoA, hb11⟩
          obtain ⟨aA, cA, rfl, _, _, _⟩ := hoA.shape
          have S11 := hide (HS.out.next hb11)
          have OA := hide hoA.rd.2
          clear hb11 hoA HS
          go_wp2_with fail
          refine (HLs.out _ S11.out.sd).2.2.2.2.2.mono ?_
          rintro e u12 ⟨uc, rfl, hoC, hb12⟩
          obtain ⟨aC, cC, rfl, _, _, _⟩ := hoC.shape
          have S12 := hide (S11.out.next hb12)
          have HSm := hide (same_rd (rsO xs o) (by have := HRl.out; omega) aA aC cA cC u12 (OA.out.below hb12) hoC.rd.2)
          clear hb12 hoC S11 OA
          go_wp2_with fail
          refine HSm.out.mono ?_
          rintro e u13 ⟨rfl, hb13⟩
          have S13 := hide (S12.out.next hb13)
          clear hb13 S12 HSm
          go_wp2_with fail
          refine (apart_yes S13.out.bk).mono ?_
          rintro e u14 ⟨rfl, hf14⟩
          have F14 := hide (S13.out.apart hf14)
          clear hf14 S13
          go_wp2_with fail
          refine (HLs.out _ F14.out.sd).2.2.2.2.1.mono ?_
          rintro e u15 ⟨ub, rfl, hoA, hb15⟩
          obtain ⟨aB, cB, rfl, _, _, _⟩ := hoA.shape
          have F15 := hide (F14.out.next hb15)
          have OA := hide hoA.rd.2
          clear hb15 hoA F14
          go_wp2_with fail
          refine (HLs.out _ F15.out.sd).2.2.2.2.2.mono ?_
          rintro e u16 ⟨ud, rfl, hoC, hb16⟩
          obtain ⟨aD, cD, rfl, _, _, _⟩ := hoC.shape
          have F16 := hide (F15.out.next hb16)
          have HSm := hide (same_rd (rsO xs o) (by have := HRl.out; omega) aB aD cB cD u16 (OA.out.below hb16) hoC.rd.2)
          clear hb16 hoC F15 OA
          go_wp2_with fail
          refine HSm.out.mono ?_
          rintro e u17 ⟨rfl, hb17⟩
          have F17 := hide (F16.out.next hb17)
          clear hb17 F16 HSm
          go_wp2_with fail
          refine (left_no F17.out.zero).mono ?_
          rintro e u18 ⟨rfl, rfl⟩
          go_wp2_with fail
          refine (at_no F17.out.zero).mono ?_
          rintro e u19 ⟨rfl, rfl⟩
          go_wp2_with fail
          refine (rest_no F17.out.zero).mono ?_
          rintro e u20 ⟨rfl, rfl⟩
          go_wp2
          go_ret
          exact ⟨rfl, F17.out.bl⟩
end Go.Proofs.YtlddnpgcoekaaaaGreatDoor
