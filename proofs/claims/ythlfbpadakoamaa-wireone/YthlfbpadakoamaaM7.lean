/- Pieces of the proof: WI, WJ, WRp, WP, WPb. -/
import Derived.Test.YthlfbpadakoamaaM6
/- package wire: decode, DecodeRequest. -/
namespace Go.Proofs.Ythlfbpadakoamaa
open Go.RowKit

def hd4 : List Nat → Option (Nat × List Nat)
  | x0 :: x1 :: x2 :: x3 :: ys => some (val4 x0 x1 x2 x3, ys)
  | _ => none
/- What decode answers. -/
def DecA {α : Type} (pf : Ps α) (rep : World → (Nat → Prop) → Value → α → Prop) (w w' : World) (xs : List Nat) (v : Value) (n er : Int) : Prop :=
  ∃ x, rep w' (Bn w w') v x ∧ ((hd4 xs = none ∧ n = 0 ∧ er = 9) ∨ ∃ V ys, hd4 xs = some (V, ys) ∧ ((65536 < V ∧ n = 0 ∧ er = 3) ∨ (V ≤ 65536 ∧ ys.length < V ∧ n = 0 ∧ er = 9) ∨ (V ≤ 65536 ∧ V ≤ ys.length ∧ n = (V : Int) + 4 ∧ ((er = 0 ∧ pf (ys.take V) = some (x, [])) ∨ (er = 8 ∧ ∀ y, pf (ys.take V) ≠ some (y, []))))))
theorem hd4_few {xs : List Nat} (h : xs.length < 4) : hd4 xs = none := by
  match xs, h with
  | [], _ => rfl
  | [_], _ => rfl
  | [_, _], _ => rfl
  | [_, _, _], _ => rfl
def fnQ : Obj := .cells #[.func (Fn.func 11) #[] #[]] 45
def startQ (w : World) : World := ((w.alloc fnQ).alloc zeroQ).alloc zeroQ
theorem startQ_below (w : World) : Below w.heap.size w (startQ w) := (((Below.refl _ w).alloc (Nat.le_refl _) _).alloc (by simp) _).alloc (by simp; omega) _
theorem startQ_size (w : World) : (startQ w).heap.size = w.heap.size + 3 := by simp [startQ]
theorem startQ_f (w : World) : (startQ w).heap[w.heap.size]? = some fnQ := (Below.heap_alloc _ _ _ (by simp; omega)).trans ((Below.heap_alloc _ _ _ (by simp)).trans (heap_alloc_new w _))
theorem startQ_r (w : World) : (startQ w).heap[w.heap.size + 1]? = some zeroQ := by
  have h := heap_alloc_new (w.alloc fnQ) zeroQ
  rw [World.size_alloc] at h
  exact (Below.heap_alloc _ _ _ (by simp)).trans h
theorem startQ_z (w : World) : (startQ w).heap[w.heap.size + 1 + 1]? = some zeroQ := by
  have h := heap_alloc_new ((w.alloc fnQ).alloc zeroQ) zeroQ
  rw [World.size_alloc, World.size_alloc] at h
  exact h
set_option maxHeartbeats 4000000 in
theorem decodeQ_err (a : Option Addr) (n cap : Nat) (er : Int) (w : World) (her : (er == 0) = false)
    (hB : Calls Try.prog 18 #[.slice a n cap] (startQ w) fun e w' => e = .returned (.tuple #[.slice none 0 0, .int .i64 er]) ∧ Below (startQ w).heap.size (startQ w) w') :
    Calls Try.prog 10 #[.slice a n cap, .func (Fn.func 11) #[] #[]] w fun e w' => e = .returned (.tuple #[zeroQv, .int .i64 0, .int .i64 er]) ∧ Below w.heap.size w w' := by
  have HB := hide hB
  have HS := hide (startQ_below w)
  have HR := hide (startQ_r w)
  have HZ := hide (startQ_z w)
  unfold startQ fnQ zeroQ at HB HS HR HZ
  unfold zeroQv
  clear hB
  go_enter Try.func10, Try.ntmps10
  go_wp2_with fail
  refine HB.out.mono ?_
  rintro e w1 ⟨rfl, hb⟩
  have hr1 := (hb.block _ (lt_of_heap HR.out)).trans HR.out
  have hz1 := (hb.block _ (lt_of_heap HZ.out)).trans HZ.out
  have l1 := lt_of_heap hr1
  have l2 := lt_of_heap hz1
  obtain ⟨a0, a1, a2, a3, a4, af⟩ := cells5 hr1
  obtain ⟨b0, b1, b2, b3, b4, bf⟩ := cells5 hz1
  have HBL := hide (HS.out.trans (hb.mono HS.out.size))
  clear hb hr1 hz1 HB
  go_wp2
  refine bodyPost_ret (v := .tuple #[.agg #[.int .u8 0, .string ⟨#[]⟩, .string ⟨#[]⟩, .int .i64 0, .slice none 0 0], .int .i64 0, .int .i64 er]) (by simp [results, Try.results10, go_sem, World.cell?_alloc_past, l1, a0, a1, a2, a3, a4]) rfl ⟨rfl, ?_⟩
  exact (((((HBL.out.setCell (by simp) _).setCell (by simp) _).setCell (by simp) _).setCell (by simp) _).setCell (by simp) _).alloc (by simp; omega) _
set_option maxHeartbeats 4000000 in
theorem decodeQ_body (a : Option Addr) (n cap q : Nat) (xs : List Nat) (w : World) (hl : xs.length ≤ 65536) (h256 : ∀ x ∈ xs, x < 256) (hq : q < w.heap.size)
    (hB : Calls Try.prog 18 #[.slice a n cap] (startQ w) fun e w' => ∃ o c, e = .returned (.tuple #[.slice (some ⟨q, o, none⟩) xs.length c, .int .i64 0]) ∧ xs.length ≤ c ∧ Bs w' q o xs ∧ Below (startQ w).heap.size (startQ w) w') :
    Calls Try.prog 10 #[.slice a n cap, .func (Fn.func 11) #[] #[]] w fun e w' => (∃ x v er, e = .returned (.tuple #[v, .int .i64 ((xs.length : Int) + 4), .int .i64 er]) ∧ ReqR w' (Bn w w') v x ∧ ((er = 0 ∧ reqP xs = some (x, [])) ∨ (er = 8 ∧ ∀ y, reqP xs ≠ some (y, [])))) ∧ Below w.heap.size w w' := by
  have hmf : ∀ (fn : Fn) (first cap : Array Value) (w : World), (Instr.makeFunc fn first cap).run Try.prog w = .ok (.func fn first cap) w := fun _ _ _ _ => rfl
  have HB := hide hB
  have HS := hide (startQ_below w)
  have HR := hide (startQ_r w)
  have HZ := hide (startQ_z w)
  have HF := hide (startQ_f w)
  have HSZ := hide (startQ_size w)
  unfold startQ fnQ zeroQ at HB HS HR HZ HF HSZ
  obtain ⟨L, hL⟩ : ∃ L, xs.length = L := ⟨_, rfl⟩
  have hw : IntKind.i64.wrap (4 + (L : Int)) = (L : Int) + 4 := by rw [IntKind.wrap_i64]; omega
  have HL := hide hL
  have HLL := hide hl; have H256 := hide h256; have HQ := hide hq
  rw [hL] at HB ⊢
  clear hB hL hl h256 hq
  go_enter Try.func10, Try.ntmps10
  go_wp2_with fail
  refine HB.out.mono ?_
  rintro e w1 ⟨o, c, rfl, hc, hbs, hb⟩
  have hr1 := (hb.block _ (lt_of_heap HR.out)).trans HR.out
  have hz1 := (hb.block _ (lt_of_heap HZ.out)).trans HZ.out
  have hf1 := (hb.block _ (lt_of_heap HF.out)).trans HF.out
  have l1 := lt_of_heap hr1
  have l2 := lt_of_heap hz1
  have l0 := lt_of_heap hf1
  have HBL := hide (HS.out.trans (hb.mono HS.out.size))
  have HZ3 : Hid (w.heap.size + 3 ≤ w1.heap.size) := hide (by have := hb.size; rw [HSZ.out] at this; exact this)
  have HBA := hide (HBL.out.alloc HBL.out.size (.cells #[.slice (some ⟨q, o, none⟩) L c] 22))
  have HCA := hide (caughtQ (w1.alloc (.cells #[.slice (some ⟨q, o, none⟩) L c] 22)) w1.heap.size w.heap.size q o c xs (by rw [HL.out]; exact heap_alloc_new w1 _) ((Below.heap_alloc _ _ _ l0).trans hf1) (Bs.fr hbs (E := fun _ => False) ((Fr.refl _ _).alloc _) (by simp)) (by rw [HL.out]; exact hc) HLL.out H256.out (by rw [World.size_alloc]; have := HQ.out; omega))
  have HR1 := hide ((Below.heap_alloc w1 (.cells #[.slice (some ⟨q, o, none⟩) L c] 22) _ l1).trans hr1)
  have HZ1 := hide ((Below.heap_alloc w1 (.cells #[.slice (some ⟨q, o, none⟩) L c] 22) _ l2).trans hz1)
  clear hb hr1 hz1 hf1 HB hbs hc
  go_wp2_with fail
  refine HCA.out.mono ?_
  rintro e w2 ⟨⟨x, v, hpf, rfl, hv⟩ | ⟨hno, rfl⟩, hb⟩
  · obtain ⟨vu, rfl, hvu⟩ := hv
    obtain ⟨ua, uc, rfl⟩ := list_slice hvu
    have hr2 := (hb.block _ (lt_of_heap HR1.out)).trans HR1.out
    have m1 := lt_of_heap hr2
    obtain ⟨a0, a1, a2, a3, a4, af⟩ := cells5 hr2
    have HBL2 := hide (HBA.out.trans (hb.mono HBA.out.size))
    have HVU := hide hvu
    have HP := hide hpf
    clear hb hpf hvu hr2 HCA
    go_wp2
    refine bodyPost_ret (v := .tuple #[.agg #[.int .u8 x.kind, .string x.src, .string x.table, .int .i64 x.n, .slice ua x.ups.length uc], .int .i64 ((L : Int) + 4), .int .i64 0]) (by simp [results, Try.results10, go_sem, World.cell?_alloc_past, m1, a0, a1, a2, a3, a4]) rfl ⟨⟨x, _, 0, rfl, ⟨_, rfl, ?_⟩, .inl ⟨rfl, HP.out⟩⟩, ?_⟩
    · have z3 := HZ3.out
      refine rep_end (ListR.ok upd_ok _ _) HVU.out (by simp; omega) (by simp) (fun b hb hl => ?_)
      have hne : b ≠ w.heap.size + 1 := by simp at hb; omega
      rw [Below.heap_alloc _ _ _ (by simpa using hl)]
      simp only [set_other hne]
    · exact (((((HBL2.out.setCell (by simp) _).setCell (by simp) _).setCell (by simp) _).setCell (by simp) _).setCell (by simp) _).alloc (by simp; omega) _
  · have hr2 := (hb.block _ (lt_of_heap HR1.out)).trans HR1.out
    have hz2 := (hb.block _ (lt_of_heap HZ1.out)).trans HZ1.out
    have m1 := lt_of_heap hr2
    have m2 := lt_of_heap hz2
    obtain ⟨a0, a1, a2, a3, a4, af⟩ := cells5 hr2
    obtain ⟨b0, b1, b2, b3, b4, bf⟩ := cells5 hz2
    have HBL2 := hide (HBA.out.trans (hb.mono HBA.out.size))
    have HN := hide hno
    unfold zeroQv
    clear hb hno hr2 hz2 HCA
    go_wp2
    refine bodyPost_ret (v := .tuple #[.agg #[.int .u8 0, .string ⟨#[]⟩, .string ⟨#[]⟩, .int .i64 0, .slice none 0 0], .int .i64 ((L : Int) + 4), .int .i64 8]) (by simp [results, Try.results10, go_sem, World.cell?_alloc_past, m1, a0, a1, a2, a3, a4]) rfl ⟨⟨zeroQA, _, 8, rfl, zeroQ_rep _ _, .inr ⟨rfl, HN.out⟩⟩, ?_⟩
    exact (((((HBL2.out.setCell (by simp) _).setCell (by simp) _).setCell (by simp) _).setCell (by simp) _).setCell (by simp) _).alloc (by simp; omega) _
/- decode, of whatever bytes. -/
theorem decodeQ_any (a : Option Addr) (cap : Nat) (xs : List Nat) (w : World) (hr : RdA w a xs) (hcap : xs.length ≤ cap) (h256 : ∀ x ∈ xs, x < 256) (hl : xs.length ≤ 1000000) :
    Calls Try.prog 10 #[.slice a xs.length cap, .func (Fn.func 11) #[] #[]] w fun e w' => (∃ v n er, e = .returned (.tuple #[v, .int .i64 n, .int .i64 er]) ∧ DecA reqP ReqR w w' xs v n er) ∧ Below w.heap.size w w' := by
  by_cases h4 : xs.length < 4
  · exact (decodeQ_err a xs.length cap 9 w rfl ((bodyOf_few a xs.length cap _ h4).mono (fun e W' ⟨h1, h2⟩ => ⟨h1, by rw [h2]; exact Below.refl _ _⟩))).mono (fun e W' ⟨h1, h2⟩ => ⟨⟨_, _, _, h1, zeroQA, zeroQ_rep _ _, .inl ⟨hd4_few h4, rfl, rfl⟩⟩, h2⟩)
  · obtain ⟨x0, x1, x2, x3, ys, rfl⟩ := four_of xs (by omega)
    obtain ⟨q, off, rfl, hq, hx⟩ := hr.some (by simp)
    have hB := bodyOf_any q off cap x0 x1 x2 x3 ys (startQ w) (Bs.fr (xs := x0 :: x1 :: x2 :: x3 :: ys) hx (E := fun _ => False) (Fr.ofBelow (startQ_below w)) (by simp)) h256 (by simpa using hcap) (by simp at hl; omega)
    have eh : hd4 (x0 :: x1 :: x2 :: x3 :: ys) = some (val4 x0 x1 x2 x3, ys) := rfl
    rcases (by omega : 65536 < val4 x0 x1 x2 x3 ∨ (val4 x0 x1 x2 x3 ≤ 65536 ∧ ys.length < val4 x0 x1 x2 x3) ∨ (val4 x0 x1 x2 x3 ≤ 65536 ∧ val4 x0 x1 x2 x3 ≤ ys.length)) with h1 | ⟨h1, h2⟩ | ⟨h1, h2⟩
    · refine (decodeQ_err _ _ cap 3 w rfl (hB.mono (fun e W' ⟨k1, k2⟩ => ⟨?_, k2⟩))).mono (fun e W' ⟨k1, k2⟩ => ⟨⟨_, _, _, k1, zeroQA, zeroQ_rep _ _, .inr ⟨_, ys, eh, .inl ⟨h1, rfl, rfl⟩⟩⟩, k2⟩)
      rcases k1 with ⟨_, k⟩ | ⟨k, _⟩ | ⟨k, _⟩
      · exact k
      · omega
      · omega
    · refine (decodeQ_err _ _ cap 9 w rfl (hB.mono (fun e W' ⟨k1, k2⟩ => ⟨?_, k2⟩))).mono (fun e W' ⟨k1, k2⟩ => ⟨⟨_, _, _, k1, zeroQA, zeroQ_rep _ _, .inr ⟨_, ys, eh, .inr (.inl ⟨h1, h2, rfl, rfl⟩)⟩⟩, k2⟩)
      rcases k1 with ⟨k, _⟩ | ⟨_, _, k⟩ | ⟨_, k, _⟩
      · omega
      · exact k
      · simp at k; omega
    · have hlen : (ys.take (val4 x0 x1 x2 x3)).length = val4 x0 x1 x2 x3 := by simp; omega
      refine (decodeQ_body _ _ cap q (ys.take (val4 x0 x1 x2 x3)) w (by omega) (fun x hx => h256 x (List.mem_cons_of_mem _ (List.mem_cons_of_mem _ (List.mem_cons_of_mem _ (List.mem_cons_of_mem _ (List.mem_of_mem_take hx)))))) hq (hB.mono (fun e W' ⟨k1, k2⟩ => ?_))).mono (fun e W' ⟨⟨x, v, er, k1, k3, k4⟩, k2⟩ => ⟨⟨_, _, _, k1, x, k3, .inr ⟨_, ys, eh, .inr (.inr ⟨h1, h2, by rw [hlen], k4⟩)⟩⟩, k2⟩)
      rcases k1 with ⟨k, _⟩ | ⟨_, k, _⟩ | ⟨_, _, o, c, k3, k4, k5⟩
      · omega
      · simp at k; omega
      · exact ⟨o, c, by rw [hlen]; exact k3, by rw [hlen]; exact k4, k5, k2⟩
end Go.Proofs.Ythlfbpadakoamaa
/- package wire: DecodeRequest. -/
namespace Go.Proofs.Ythlfbpadakoamaa
open Go.RowKit

set_option maxHeartbeats 4000000 in
theorem decRequest_any (a : Option Addr) (cap : Nat) (xs : List Nat) (w : World) (hr : RdA w a xs) (hcap : xs.length ≤ cap) (h256 : ∀ x ∈ xs, x < 256) (hl : xs.length ≤ 1000000) :
    Calls Try.prog 5 #[.slice a xs.length cap] w fun e w' => (∃ v n er, e = .returned (.tuple #[v, .int .i64 n, .int .i64 er]) ∧ DecA reqP ReqR w w' xs v n er) ∧ Below w.heap.size w w' := by
  have HB0 : Hid (Below w.heap.size w (w.alloc zeroQ)) := hide ((Below.refl _ w).alloc (Nat.le_refl _) _)
  have HD := hide (decodeQ_any a cap xs (w.alloc zeroQ) (hr.below HB0.out) hcap h256 hl)
  have HS := hide (heap_alloc_new w zeroQ)
  unfold zeroQ at HB0 HD HS
  clear hr hcap h256 hl
  go_enter Try.func5, Try.ntmps5
  go_wp2_with fail
  refine HD.out.mono ?_
  rintro e w1 ⟨⟨v, n, er, rfl, x, hv, hx⟩, hb⟩
  obtain ⟨vu, rfl, hvu⟩ := hv
  obtain ⟨ua, uc, rfl⟩ := list_slice hvu
  obtain ⟨a0, a1, a2, a3, a4, af⟩ := cells5 ((hb.block _ (lt_of_heap HS.out)).trans HS.out)
  have HBL := hide (HB0.out.trans (hb.mono HB0.out.size))
  have HVU := hide hvu
  have HX := hide hx
  clear hb hvu hx HD
  go_wp2
  refine bodyPost_ret (v := .tuple #[.agg #[.int .u8 x.kind, .string x.src, .string x.table, .int .i64 x.n, .slice ua x.ups.length uc], .int .i64 n, .int .i64 er]) (by simp [results, Try.results5, go_sem, a0, a1, a2, a3, a4]) rfl ⟨⟨_, n, er, rfl, x, ⟨_, rfl, ?_⟩, HX.out⟩, ?_⟩
  · refine rep_end (ListR.ok upd_ok _ _) HVU.out (by simp) (by simp) (fun b hb hl => ?_)
    have hne : b ≠ w.heap.size := by simp at hb; omega
    simp only [set_other hne]
  · exact ((((HBL.out.setCell (Nat.le_refl _) _).setCell (Nat.le_refl _) _).setCell (Nat.le_refl _) _).setCell (Nat.le_refl _) _).setCell (Nat.le_refl _) _
end Go.Proofs.Ythlfbpadakoamaa
/- package wire: a reply that is read. -/
namespace Go.Proofs.Ythlfbpadakoamaa
open Go.RowKit

theorem i64_or (a b : Nat) (ha : a < 65536) (hb : b < 65536) : bits .or .i64 (a : Int) (b : Int) = ((a ||| b : Nat) : Int) := by
  show IntKind.i64.wrap ((BitVec.ofInt 64 (a : Int) ||| BitVec.ofInt 64 (b : Int)).toNat : Int) = _
  rw [BitVec.toNat_or, ofInt_u64 a (by omega), ofInt_u64 b (by omega)]
  have h : a ||| b < 65536 := Nat.or_lt_two_pow (n := 16) ha hb
  generalize a ||| b = c at *
  rw [IntKind.wrap_i64]
  omega
theorem or_byte64 (t c : Nat) (ht : t < 256) (hc : c < 256) : bits .or .i64 ((t : Int) * 256) (c : Int) = ((t * 256 + c : Nat) : Int) := by
  have e : ((t : Int) * 256) = ((2 ^ 8 * t : Nat) : Int) := by omega
  rw [e, i64_or _ _ (by omega) (by omega)]
  have h := Nat.two_pow_add_eq_or_of_lt (i := 8) (b := c) hc t
  rw [← h]
  congr 1
  omega
theorem long_reads : Reads 42 longP NatR := fun W p q xs h => by
  have HB := hide (byte_reads W p q xs h)
  have HBY := hide h.byte
  have HF0 := hide h.fr
  clear h
  go_enter Try.func42, Try.ntmps42
  go_wp2_with fail
  refine HB.out.mono ?_
  rintro e w1 (⟨x, ys, v, hpf, rfl, hv, hr⟩ | ⟨hpf, rfl, hf⟩)
  · obtain rfl : v = .int .i64 x := hv
    have hx := byte_lt hpf HBY.out
    have HXS : Hid (xs = x :: ys) := by
      cases xs with
      | nil => cases hpf
      | cons a l => simp [byteP] at hpf; rw [hpf.1, hpf.2]; exact rfl
    have hw : IntKind.i64.wrap ((x : Int) * 256) = (x : Int) * 256 := by rw [IntKind.wrap_i64]; omega
    have R1 := hide hr
    have HB2 := hide (byte_reads w1 p q ys hr.base)
    clear hr hpf HB
    go_wp2_with fail
    refine HB2.out.mono ?_
    rintro e w2 (⟨y, zs, v, hpf, rfl, hv, hr⟩ | ⟨hpf, rfl, hf⟩)
    · obtain rfl : v = .int .i64 y := hv
      have hy := byte_lt hpf R1.out.byte
      have HYS : Hid (ys = y :: zs) := by
        cases ys with
        | nil => cases hpf
        | cons a l => simp [byteP] at hpf; rw [hpf.1, hpf.2]; exact rfl
      have HO := hide (or_byte64 x y hx hy)
      have R2 := hide (R1.out.trans hr)
      clear hr hpf hx hy
      go_wp2
      go_ret
      refine .inl ⟨x * 256 + y, zs, _, by rw [HXS.out, HYS.out]; rfl, rfl, ?_, R2.out⟩
      first | exact congrArg (Value.int .i64) HO.out | (show _ = _; simp [wrap64, HO.out])
    · have HF := hide (R1.out.fr.trans hf (fun _ _ e => e))
      have HY : Hid (ys = []) := by
        cases ys with
        | nil => exact rfl
        | cons a l => simp [byteP] at hpf
      clear hf hpf
      go_wp2
      exact ⟨rfl, .inr ⟨by rw [HXS.out, HY.out]; rfl, rfl, HF.out⟩⟩
  · have HY : Hid (xs = []) := by
      cases xs with
      | nil => exact rfl
      | cons a l => simp [byteP] at hpf
    have HF := hide hf
    clear hf hpf
    go_wp2
    exact ⟨rfl, .inr ⟨by rw [HY.out]; rfl, rfl, HF.out⟩⟩
theorem long_le {xs ys : List Nat} {n : Nat} (h : longP xs = some (n, ys)) (hb : ∀ x ∈ xs, x < 256) : n ≤ 65535 := by
  match xs, h with
  | x :: y :: zs, h =>
    simp [longP] at h
    have h1 := hb x (by simp); have h2 := hb y (by simp)
    omega
def RepR (W : World) (X : Nat → Prop) (v : Value) (x : RepA) : Prop := ∃ ve, v = .agg #[.int .i64 x.err, .int .i64 x.at', ve, .int .i64 x.val.w, .int .u64 x.val.hi, .int .u64 x.val.lo] ∧ ListR EntryR mkAgg 4 W X ve x.ents
theorem rep_ok : RepOk RepR where
  mono := fun ⟨vu, e, h1⟩ hm => ⟨vu, e, (ListR.ok entry_ok _ _).mono h1 hm⟩
  frame := fun ⟨vu, e, h1⟩ hs hf => ⟨vu, e, (ListR.ok entry_ok _ _).frame h1 hs hf⟩
theorem cells6 {W : World} {s : Nat} {a b c d e f : Value} {t : TypeId} (h : W.heap[s]? = some (.cells #[a, b, c, d, e, f] t (0, 0))) : W.cell? ⟨s, 0, none⟩ = some a ∧ W.cell? ⟨s, 1, none⟩ = some b ∧ W.cell? ⟨s, 2, none⟩ = some c ∧ W.cell? ⟨s, 3, none⟩ = some d ∧ W.cell? ⟨s, 4, none⟩ = some e ∧ W.cell? ⟨s, 5, none⟩ = some f ∧ ∀ o, W.frozen? ⟨s, o, none⟩ = false := by
  refine ⟨?_, ?_, ?_, ?_, ?_, ?_, fun o => ?_⟩
  all_goals first | (unfold World.cell?; simp only [h]; rfl) | (unfold World.frozen?; simp only [h]; simp)
def zeroP : Obj := .cells #[.int .i64 0, .int .i64 0, .slice none 0 0, .int .i64 0, .int .u64 0, .int .u64 0] 39
theorem Rr.setc6 {w W : World} {p q : Nat} {xs : List Nat} (h : Rr w W p q xs) {s : Nat} {a b c d e f : Value} (hs : w.heap.size ≤ s) : Rr w ((((((W.setCell ⟨s, 0, none⟩ a).setCell ⟨s, 1, none⟩ b).setCell ⟨s, 2, none⟩ c).setCell ⟨s, 3, none⟩ d).setCell ⟨s, 4, none⟩ e).setCell ⟨s, 5, none⟩ f) p q xs := (((((h.setc hs).setc hs).setc hs).setc hs).setc hs).setc hs
set_option maxHeartbeats 4000000 in
theorem reply_reads : Reads 15 repP RepR := fun W p q xs h => by
  have hmf : ∀ (fn : Fn) (first cap : Array Value) (w : World), (Instr.makeFunc fn first cap).run Try.prog w = .ok (.func fn first cap) w := fun _ _ _ _ => rfl
  have hp := h.pl
  have hs := heap_alloc_new W zeroP
  have R0 := hide (h.alloc zeroP)
  have HN := hide (byte_reads _ p q xs R0.out.base)
  unfold zeroP at HN R0 hs
  have HS := hide hs
  clear hs h
  go_enter Try.func15, Try.ntmps15
  go_wp2_with fail
  refine HN.out.mono ?_
  rintro e w1 (⟨er, ys, v, hpf, rfl, hv, hr⟩ | ⟨hpf, rfl, hf⟩)
  · obtain rfl : v = .int .i64 er := hv
    have HS1 := hide (hr.keep HS.out (by omega))
    have R1 := hide (R0.out.trans hr)
    have HP1 := hide hpf
    have HB := hide (whole_reads w1 p q ys R1.out.base)
    clear hr hpf HN
    go_wp2_with fail
    refine HB.out.mono ?_
    rintro e w2 (⟨at', zs, v, hpf, rfl, hv, hr⟩ | ⟨hpf, rfl, hf⟩)
    · obtain rfl : v = .int .i64 at' := hv
      have HS2 := hide (hr.keep HS1.out (by omega))
      have R2 := hide (R1.out.trans hr)
      have HP2 := hide hpf
      have HL := hide (long_reads w2 p q zs R2.out.base)
      clear hr hpf HB
      go_wp2_with fail
      refine HL.out.mono ?_
      rintro e w3 (⟨n, us, v, hpf, rfl, hv, hr⟩ | ⟨hpf, rfl, hf⟩)
      · obtain rfl : v = .int .i64 n := hv
        have hn := long_le hpf R2.out.byte
        have HS3 := hide (hr.keep HS2.out (by omega))
        have R3 := hide (R2.out.trans hr)
        have HP3 := hide hpf
        have HM := hide (listOf_entry n hn w3 p q us R3.out.base)
        clear hr hpf HL hn
        go_wp2_with fail
        refine HM.out.mono ?_
        rintro e w4 (⟨l, ts, v, hpf, rfl, hv, hr⟩ | ⟨hpf, rfl, hf⟩)
        · obtain ⟨ua, uc, rfl⟩ := list_slice hv
          have HS4 := hide (hr.keep HS3.out (by omega))
          have R4 := hide (R3.out.trans hr)
          have HP4 := hide hpf
          have HV4 := hide hv
          have HZ3 := hide R3.out.fr.size
          have HL3 := hide (lt_of_heap HS3.out)
          have hp3 : p < w3.heap.size := Nat.lt_of_lt_of_le hp R3.out.fr.size
          have HU := hide (number_reads w4 p q ts R4.out.base)
          clear hr hpf HM hv
          go_wp2_with fail
          refine HU.out.mono ?_
          rintro e w5 (⟨⟨b1, b2, b3⟩, rs, v, hpf, rfl, hv, hr⟩ | ⟨hpf, rfl, hf⟩)
          · obtain rfl : v = .agg #[.int .i64 b1, .int .u64 b2, .int .u64 b3] := hv
            obtain ⟨a0, a1, a2, a3, a4, a5, af⟩ := cells6 (hr.keep HS4.out (by omega))
            have R5 := hide (R4.out.trans hr)
            have HP5 := hide hpf
            have HV5 := hide (rep_fr (ListR.ok entry_ok _ _) HV4.out hr.fr hp3)
            clear hr hpf HU
            go_wp2
            refine bodyPost_ret (v := .agg #[.int .i64 er, .int .i64 at', .slice ua l.length uc, .int .i64 b1, .int .u64 b2, .int .u64 b3]) (by simp [results, Try.results15, go_sem, a0, a1, a2, a3, a4, a5]) rfl (.inl ⟨⟨er, at', l, ⟨b1, b2, b3⟩⟩, rs, _, by simp [repP, HP1.out, HP2.out, HP3.out, HP4.out, HP5.out], rfl, ⟨_, rfl, ?_⟩, ?_⟩)
            · have hlt := HL3.out
              exact rep_end (ListR.ok entry_ok _ _) HV5.out HZ3.out (by simp) (fun b hb _ => by have hne : b ≠ W.heap.size := (by omega); simp only [set_other hne])
            · exact R5.out.setc6 (Nat.le_refl _)
          · have HF := hide (R4.out.fr.trans hf (fun _ _ e => e))
            have HN := hide hpf
            clear hf hpf
            go_wp2
            exact ⟨rfl, .inr ⟨by simp [repP, HP1.out, HP2.out, HP3.out, HP4.out, HN.out], rfl, HF.out⟩⟩
        · have HF := hide (R3.out.fr.trans hf (fun _ _ e => e))
          have HN := hide hpf
          clear hf hpf
          go_wp2
          exact ⟨rfl, .inr ⟨by simp [repP, HP1.out, HP2.out, HP3.out, HN.out], rfl, HF.out⟩⟩
      · have HF := hide (R2.out.fr.trans hf (fun _ _ e => e))
        have HN := hide hpf
        clear hf hpf
        go_wp2
        exact ⟨rfl, .inr ⟨by simp [repP, HP1.out, HP2.out, HN.out], rfl, HF.out⟩⟩
    · have HF := hide (R1.out.fr.trans hf (fun _ _ e => e))
      have HN := hide hpf
      clear hf hpf
      go_wp2
      exact ⟨rfl, .inr ⟨by simp [repP, HP1.out, HN.out], rfl, HF.out⟩⟩
  · have HN := hide hpf
    have HF := hide hf.after
    clear hf hpf
    go_wp2
    exact ⟨rfl, .inr ⟨by simp [repP, HN.out], rfl, HF.out⟩⟩
end Go.Proofs.Ythlfbpadakoamaa
/- package wire: DecodeReply, as DecodeRequest. -/
namespace Go.Proofs.Ythlfbpadakoamaa
open Go.RowKit

theorem ent_reply : entP 15 := enters_of Try.func15 (by kernel_rfl) rfl
set_option maxHeartbeats 4000000 in
theorem decode1P (W : World) (bb fb q o c : Nat) (xs : List Nat) (hb : W.heap[bb]? = some (.cells #[.slice (some ⟨q, o, none⟩) xs.length c] 22 (0, 0))) (hf : W.heap[fb]? = some (.cells #[.func (Fn.func 15) #[] #[]] 53 (0, 0)))
    (hx : Bs W q o xs) (hc : xs.length ≤ c) (hl : xs.length ≤ 65536) (h256 : ∀ x ∈ xs, x < 256) (hq : q < W.heap.size) :
    Calls Try.prog 39 #[.pointer (some ⟨bb, 0, none⟩), .pointer (some ⟨fb, 0, none⟩)] W fun e W' => Whole repP RepR W xs e W' := by
  have hbl := lt_of_heap hb
  have hfl := lt_of_heap hf
  obtain ⟨c0, _⟩ := cell1 hb
  obtain ⟨f0, _⟩ := cell1 hf
  obtain ⟨O, hO⟩ : ∃ O, O = Obj.cells #[.slice (some ⟨q, o, none⟩) xs.length c] 62 := ⟨_, rfl⟩
  have R0 := hide (Rr.make (z := zeroP) hx hc hl h256 hq 62)
  have HQ := hide (reply_reads _ _ q xs R0.out)
  have hs : ((W.alloc zeroP).alloc (.cells #[.slice (some ⟨q, o, none⟩) xs.length c] 62)).heap[W.heap.size]? = some zeroP := (Below.heap_alloc _ _ _ (by simp)).trans (heap_alloc_new W _)
  have HB0 : Hid (Below W.heap.size W ((W.alloc zeroP).alloc (.cells #[.slice (some ⟨q, o, none⟩) xs.length c] 62))) := hide (((Below.refl _ W).alloc (Nat.le_refl _) _).alloc (by simp) _)
  have hent := ent_reply
  unfold entP at hent
  unfold zeroP at R0 HQ hs HB0
  have HS := hide hs
  clear hb hf hx hs hO O
  go_enter Try.func39, Try.ntmps39
  go_wp2_with fail
  refine HQ.out.mono ?_
  rintro e w1 (⟨x, ys, v, hpf, rfl, hv, hr⟩ | ⟨hpf, rfl, hf⟩)
  · obtain ⟨vu, rfl, hvu⟩ := hv
    obtain ⟨ua, uc, rfl⟩ := list_slice hvu
    have hs1 := hr.keep HS.out (by omega)
    have hz1 := lt_of_heap hs1
    obtain ⟨a0, a1, a2, a3, a4, a5, af⟩ := cells6 hs1
    obtain ⟨o1, c1, hc1, _, _⟩ := hr.cell
    have hpz : W.heap.size + 1 < w1.heap.size := Nat.lt_of_lt_of_le hr.pl hr.fr.size
    have HBL : Hid (Below W.heap.size W w1) := hide (HB0.out.trans (hr.fr.below (B := W.heap.size) (fun b e => by omega) HB0.out.size))
    have HVU := hide hvu
    have HP := hide hpf
    clear hr hpf HQ hvu hs1
    cases ys with
    | nil =>
      go_wp2_with fail
      refine (must_yes _).mono ?_
      rintro e w2 ⟨rfl, rfl⟩
      go_wp2
      refine bodyPost_ret (v := .agg #[.int .i64 x.err, .int .i64 x.at', .slice ua x.ents.length uc, .int .i64 x.val.w, .int .u64 x.val.hi, .int .u64 x.val.lo]) (by simp [results, Try.results39, go_sem, World.cell?_alloc_past, hz1, a0, a1, a2, a3, a4, a5]) rfl ⟨.inl ⟨x, _, HP.out, rfl, ?_⟩, ?_⟩
      · refine ⟨_, rfl, ?_⟩
        refine rep_end (ListR.ok entry_ok _ _) HVU.out (by simp; omega) (by simp) (fun b hb hl => ?_)
        have hne : b ≠ W.heap.size := by simp at hb; omega
        rw [Below.heap_alloc _ _ _ (by simpa using hl)]
        simp only [set_other hne]
      · exact ((((((HBL.out.setCell (Nat.le_refl _) _).setCell (Nat.le_refl _) _).setCell (Nat.le_refl _) _).setCell (Nat.le_refl _) _).setCell (Nat.le_refl _) _).setCell (Nat.le_refl _) _).alloc (by simp; omega) _
    | cons y ys =>
      obtain ⟨L, hL⟩ : ∃ L, (y :: ys).length = L := ⟨_, rfl⟩
      rw [hL] at hc1
      have e0 : ((L : Int) == 0) = false := by rw [← hL]; simp; omega
      clear hL
      go_wp2_with fail
      refine (must_no _).mono ?_
      rintro e w2 ⟨rfl, rfl⟩
      go_wp2
      exact ⟨rfl, .inr ⟨fun x' h => by rw [HP.out] at h; simp at h, rfl⟩, HBL.out.alloc (by omega) _⟩
  · have HN := hide hpf
    have HBL : Hid (Below W.heap.size W w1) := hide (HB0.out.trans (hf.below (B := W.heap.size) (fun b e => by omega) HB0.out.size))
    clear hpf hf
    go_wp2
    exact ⟨rfl, .inr ⟨fun x' h => (by rw [HN.out] at h; cases h), rfl⟩, HBL.out⟩
/- caught's own closure. -/
theorem catchP_panic (p : Addr) (x : Bool) (older : List PanicEntry) (w : World) (hc : w.cell? p = some (.bool x)) (hz : w.frozen? p = false) :
    CallsD Try.prog 69 #[.pointer (some p)] (.panicking ({ v := .iface 97 (.agg #[]), recovered := false } :: older)) w fun e u' w' =>
      e = .returned (.tuple #[]) ∧ u' = .panicking ({ v := .iface 97 (.agg #[]), recovered := true } :: older) ∧ w' = w.setCell p (.bool false) := by
  refine callsD_of_wpS Try.func69 rfl fun c₀ cs hu => ?_
  apply wpS_seq
  apply wpS_region
  simp [wpOpsS, go_sem, recoverD, hu, Try.ntmps69, Exit.thenS]
  refine wpS_cond (t := true) (by simp [Act.eval, Array.replicate]) ?_
  simp only [if_true]
  apply wpS_region
  simp [wpOpsS, go_sem, hc, hz, bodyPostS, results, Try.results69]
theorem catchP_idle (p : Addr) (w : World) :
    CallsD Try.prog 69 #[.pointer (some p)] .returning w fun e u' w' => e = .returned (.tuple #[]) ∧ u' = .returning ∧ w' = w := by
  refine callsD_of_wpS Try.func69 rfl fun c₀ cs hu => ?_
  apply wpS_seq
  apply wpS_region
  simp [wpOpsS, go_sem, recoverD, hu, Try.ntmps69, Exit.thenS]
  refine wpS_cond (t := false) (by simp [Act.eval, Array.replicate]) ?_
  simp only [Bool.false_eq_true, if_false]
  refine wpS_of_wp (wp_skip ?_)
  cases c₀
  simp_all [bodyPostS, results, Try.results69]
def zeroPv : Value := .agg #[.int .i64 0, .int .i64 0, .slice none 0 0, .int .i64 0, .int .u64 0, .int .u64 0]
def zeroPA : RepA := ⟨0, 0, [], zeroA⟩
theorem zeroP_rep (W : World) (X : Nat → Prop) : RepR W X zeroPv zeroPA := ⟨_, rfl, list_nil _ _ _ _ _⟩
set_option maxHeartbeats 4000000 in
theorem caughtP (W : World) (bb fb q o c : Nat) (xs : List Nat) (hb : W.heap[bb]? = some (.cells #[.slice (some ⟨q, o, none⟩) xs.length c] 22 (0, 0))) (hf : W.heap[fb]? = some (.cells #[.func (Fn.func 15) #[] #[]] 53 (0, 0)))
    (hx : Bs W q o xs) (hc : xs.length ≤ c) (hl : xs.length ≤ 65536) (h256 : ∀ x ∈ xs, x < 256) (hq : q < W.heap.size) :
    Calls Try.prog 38 #[.func (Fn.func 39) #[] #[.pointer (some ⟨bb, 0, none⟩), .pointer (some ⟨fb, 0, none⟩)]] W fun e W' =>
      ((∃ x v, repP xs = some (x, []) ∧ e = .returned (.tuple #[v, .bool true]) ∧ RepR W' (Bn W W') v x) ∨ ((∀ x, repP xs ≠ some (x, [])) ∧ e = .returned (.tuple #[zeroPv, .bool false]))) ∧ Below W.heap.size W W' := by
  have hmf : ∀ (fn : Fn) (first cap : Array Value) (w : World), (Instr.makeFunc fn first cap).run Try.prog w = .ok (.func fn first cap) w := fun _ _ _ _ => rfl
  have hbl := lt_of_heap hb
  have hfl := lt_of_heap hf
  have HB0 : Hid (Below W.heap.size W ((W.alloc zeroP).alloc (.cells #[.bool false] 4))) := hide (((Below.refl _ W).alloc (Nat.le_refl _) _).alloc (by simp) _)
  have HD := hide (decode1P ((W.alloc zeroP).alloc (.cells #[.bool false] 4)) bb fb q o c xs ((HB0.out.block _ hbl).trans hb) ((HB0.out.block _ hfl).trans hf) (Bs.fr hx (E := fun _ => False) (Fr.ofBelow HB0.out) (by simp)) hc hl h256 (by simp; omega))
  have hs : ((W.alloc zeroP).alloc (.cells #[.bool false] 4)).heap[W.heap.size]? = some zeroP := (Below.heap_alloc _ _ _ (by simp)).trans (heap_alloc_new W _)
  have ht := heap_alloc_new (W.alloc zeroP) (.cells #[.bool false] 4)
  rw [World.size_alloc] at ht
  unfold zeroP at HB0 HD hs ht
  unfold zeroPv
  have HS := hide hs; have HT := hide ht
  clear hb hf hx hs ht hc hl h256 hq
  go_enter_defers Try.func38, Try.ntmps38
  go_wp2_with fail
  refine HD.out.mono ?_
  rintro e w1 ⟨⟨x, v, hpf, rfl, hv⟩ | ⟨hno, rfl⟩, hb⟩
  · obtain ⟨vu, rfl, hvu⟩ := hv
    obtain ⟨ua, uc, rfl⟩ := list_slice hvu
    have hs1 := (hb.block _ (lt_of_heap HS.out)).trans HS.out
    have ht1 := (hb.block _ (lt_of_heap HT.out)).trans HT.out
    obtain ⟨a0, a1, a2, a3, a4, a5, af⟩ := cells6 hs1
    obtain ⟨b0, bf⟩ := cell1 ht1
    have HBL := hide (HB0.out.trans (hb.mono HB0.out.size))
    have HVU := hide hvu
    have HP := hide hpf
    clear hb hpf hvu hs1 ht1 HD
    go_wp2
    refine leaves_cons (f := 69) (args := #[.pointer (some ⟨W.heap.size + 1, 0, none⟩)]) (by simp) (by simp [go_sem]) ?_
    refine (catchP_idle _ _).mono ?_
    rintro e u' w2 ⟨rfl, rfl, rfl⟩
    refine ⟨.tuple #[.agg #[.int .i64 x.err, .int .i64 x.at', .slice ua x.ents.length uc, .int .i64 x.val.w, .int .u64 x.val.hi, .int .u64 x.val.lo], .bool true], by simp [results, Try.results38, go_sem, a0, a1, a2, a3, a4, a5, b0], .inl ⟨x, _, HP.out, rfl, ?_⟩, ?_⟩
    · refine ⟨_, rfl, ?_⟩
      refine rep_end (ListR.ok entry_ok _ _) HVU.out (by simp; omega) (by simp) (fun b hb hl => ?_)
      have hne : b ≠ W.heap.size := by simp at hb; omega
      have hne1 : b ≠ W.heap.size + 1 := by simp at hb; omega
      simp only [set_other hne, set_other hne1]
    · exact ((((((HBL.out.setCell (Nat.le_refl _) _).setCell (Nat.le_refl _) _).setCell (Nat.le_refl _) _).setCell (Nat.le_refl _) _).setCell (Nat.le_refl _) _).setCell (Nat.le_refl _) _).setCell (by simp) _
  · have hs1 := (hb.block _ (lt_of_heap HS.out)).trans HS.out
    have ht1 := (hb.block _ (lt_of_heap HT.out)).trans HT.out
    obtain ⟨a0, a1, a2, a3, a4, a5, af⟩ := cells6 hs1
    obtain ⟨b0, bf⟩ := cell1 ht1
    have HBL := hide (HB0.out.trans (hb.mono HB0.out.size))
    have HN := hide hno
    clear hb hno hs1 ht1 HD
    go_wp2
    refine leaves_cons (f := 69) (args := #[.pointer (some ⟨W.heap.size + 1, 0, none⟩)]) (by simp) (by simp [go_sem]) ?_
    refine (catchP_panic ⟨W.heap.size + 1, 0, none⟩ false [] _ b0 (bf 0)).mono ?_
    rintro e u' w2 ⟨rfl, rfl, rfl⟩
    refine ⟨.tuple #[.agg #[.int .i64 0, .int .i64 0, .slice none 0 0, .int .i64 0, .int .u64 0, .int .u64 0], .bool false], by simp [results, Try.results38, go_sem, a0, a1, a2, a3, a4, a5, b0], .inr ⟨HN.out, rfl⟩, HBL.out.setCell (by simp) _⟩
end Go.Proofs.Ythlfbpadakoamaa
/- package wire: DecodeReply, as DecodeRequest. -/
namespace Go.Proofs.Ythlfbpadakoamaa
open Go.RowKit

def fnP : Obj := .cells #[.func (Fn.func 15) #[] #[]] 53
def startP (w : World) : World := ((w.alloc fnP).alloc zeroP).alloc zeroP
theorem startP_below (w : World) : Below w.heap.size w (startP w) := (((Below.refl _ w).alloc (Nat.le_refl _) _).alloc (by simp) _).alloc (by simp; omega) _
theorem startP_size (w : World) : (startP w).heap.size = w.heap.size + 3 := by simp [startP]
theorem startP_f (w : World) : (startP w).heap[w.heap.size]? = some fnP := (Below.heap_alloc _ _ _ (by simp; omega)).trans ((Below.heap_alloc _ _ _ (by simp)).trans (heap_alloc_new w _))
theorem startP_r (w : World) : (startP w).heap[w.heap.size + 1]? = some zeroP := by
  have h := heap_alloc_new (w.alloc fnP) zeroP
  rw [World.size_alloc] at h
  exact (Below.heap_alloc _ _ _ (by simp)).trans h
theorem startP_z (w : World) : (startP w).heap[w.heap.size + 1 + 1]? = some zeroP := by
  have h := heap_alloc_new ((w.alloc fnP).alloc zeroP) zeroP
  rw [World.size_alloc, World.size_alloc] at h
  exact h
set_option maxHeartbeats 4000000 in
theorem decodeP_err (a : Option Addr) (n cap : Nat) (er : Int) (w : World) (her : (er == 0) = false)
    (hB : Calls Try.prog 18 #[.slice a n cap] (startP w) fun e w' => e = .returned (.tuple #[.slice none 0 0, .int .i64 er]) ∧ Below (startP w).heap.size (startP w) w') :
    Calls Try.prog 14 #[.slice a n cap, .func (Fn.func 15) #[] #[]] w fun e w' => e = .returned (.tuple #[zeroPv, .int .i64 0, .int .i64 er]) ∧ Below w.heap.size w w' := by
  have HB := hide hB
  have HS := hide (startP_below w)
  have HR := hide (startP_r w)
  have HZ := hide (startP_z w)
  unfold startP fnP zeroP at HB HS HR HZ
  unfold zeroPv
  clear hB
  go_enter Try.func14, Try.ntmps14
  go_wp2_with fail
  refine HB.out.mono ?_
  rintro e w1 ⟨rfl, hb⟩
  have hr1 := (hb.block _ (lt_of_heap HR.out)).trans HR.out
  have hz1 := (hb.block _ (lt_of_heap HZ.out)).trans HZ.out
  have l1 := lt_of_heap hr1
  have l2 := lt_of_heap hz1
  obtain ⟨a0, a1, a2, a3, a4, a5, af⟩ := cells6 hr1
  obtain ⟨b0, b1, b2, b3, b4, b5, bf⟩ := cells6 hz1
  have HBL := hide (HS.out.trans (hb.mono HS.out.size))
  clear hb hr1 hz1 HB
  go_wp2
  refine bodyPost_ret (v := .tuple #[.agg #[.int .i64 0, .int .i64 0, .slice none 0 0, .int .i64 0, .int .u64 0, .int .u64 0], .int .i64 0, .int .i64 er]) (by simp [results, Try.results14, go_sem, World.cell?_alloc_past, l1, a0, a1, a2, a3, a4, a5]) rfl ⟨rfl, ?_⟩
  exact ((((((HBL.out.setCell (by simp) _).setCell (by simp) _).setCell (by simp) _).setCell (by simp) _).setCell (by simp) _).setCell (by simp) _).alloc (by simp; omega) _
set_option maxHeartbeats 4000000 in
theorem decodeP_body (a : Option Addr) (n cap q : Nat) (xs : List Nat) (w : World) (hl : xs.length ≤ 65536) (h256 : ∀ x ∈ xs, x < 256) (hq : q < w.heap.size)
    (hB : Calls Try.prog 18 #[.slice a n cap] (startP w) fun e w' => ∃ o c, e = .returned (.tuple #[.slice (some ⟨q, o, none⟩) xs.length c, .int .i64 0]) ∧ xs.length ≤ c ∧ Bs w' q o xs ∧ Below (startP w).heap.size (startP w) w') :
    Calls Try.prog 14 #[.slice a n cap, .func (Fn.func 15) #[] #[]] w fun e w' => (∃ x v er, e = .returned (.tuple #[v, .int .i64 ((xs.length : Int) + 4), .int .i64 er]) ∧ RepR w' (Bn w w') v x ∧ ((er = 0 ∧ repP xs = some (x, [])) ∨ (er = 8 ∧ ∀ y, repP xs ≠ some (y, [])))) ∧ Below w.heap.size w w' := by
  have hmf : ∀ (fn : Fn) (first cap : Array Value) (w : World), (Instr.makeFunc fn first cap).run Try.prog w = .ok (.func fn first cap) w := fun _ _ _ _ => rfl
  have HB := hide hB
  have HS := hide (startP_below w)
  have HR := hide (startP_r w)
  have HZ := hide (startP_z w)
  have HF := hide (startP_f w)
  have HSZ := hide (startP_size w)
  unfold startP fnP zeroP at HB HS HR HZ HF HSZ
  obtain ⟨L, hL⟩ : ∃ L, xs.length = L := ⟨_, rfl⟩
  have hw : IntKind.i64.wrap (4 + (L : Int)) = (L : Int) + 4 := by rw [IntKind.wrap_i64]; omega
  have HL := hide hL
  have HLL := hide hl; have H256 := hide h256; have HQ := hide hq
  rw [hL] at HB ⊢
  clear hB hL hl h256 hq
  go_enter Try.func14, Try.ntmps14
  go_wp2_with fail
  refine HB.out.mono ?_
  rintro e w1 ⟨o, c, rfl, hc, hbs, hb⟩
  have hr1 := (hb.block _ (lt_of_heap HR.out)).trans HR.out
  have hz1 := (hb.block _ (lt_of_heap HZ.out)).trans HZ.out
  have hf1 := (hb.block _ (lt_of_heap HF.out)).trans HF.out
  have l1 := lt_of_heap hr1
  have l2 := lt_of_heap hz1
  have l0 := lt_of_heap hf1
  have HBL := hide (HS.out.trans (hb.mono HS.out.size))
  have HZ3 : Hid (w.heap.size + 3 ≤ w1.heap.size) := hide (by have := hb.size; rw [HSZ.out] at this; exact this)
  have HBA := hide (HBL.out.alloc HBL.out.size (.cells #[.slice (some ⟨q, o, none⟩) L c] 22))
  have HCA := hide (caughtP (w1.alloc (.cells #[.slice (some ⟨q, o, none⟩) L c] 22)) w1.heap.size w.heap.size q o c xs (by rw [HL.out]; exact heap_alloc_new w1 _) ((Below.heap_alloc _ _ _ l0).trans hf1) (Bs.fr hbs (E := fun _ => False) ((Fr.refl _ _).alloc _) (by simp)) (by rw [HL.out]; exact hc) HLL.out H256.out (by rw [World.size_alloc]; have := HQ.out; omega))
  have HR1 := hide ((Below.heap_alloc w1 (.cells #[.slice (some ⟨q, o, none⟩) L c] 22) _ l1).trans hr1)
  have HZ1 := hide ((Below.heap_alloc w1 (.cells #[.slice (some ⟨q, o, none⟩) L c] 22) _ l2).trans hz1)
  clear hb hr1 hz1 hf1 HB hbs hc
  go_wp2_with fail
  refine HCA.out.mono ?_
  rintro e w2 ⟨⟨x, v, hpf, rfl, hv⟩ | ⟨hno, rfl⟩, hb⟩
  · obtain ⟨vu, rfl, hvu⟩ := hv
    obtain ⟨ua, uc, rfl⟩ := list_slice hvu
    have hr2 := (hb.block _ (lt_of_heap HR1.out)).trans HR1.out
    have m1 := lt_of_heap hr2
    obtain ⟨a0, a1, a2, a3, a4, a5, af⟩ := cells6 hr2
    have HBL2 := hide (HBA.out.trans (hb.mono HBA.out.size))
    have HVU := hide hvu
    have HP := hide hpf
    clear hb hpf hvu hr2 HCA
    go_wp2
    refine bodyPost_ret (v := .tuple #[.agg #[.int .i64 x.err, .int .i64 x.at', .slice ua x.ents.length uc, .int .i64 x.val.w, .int .u64 x.val.hi, .int .u64 x.val.lo], .int .i64 ((L : Int) + 4), .int .i64 0]) (by simp [results, Try.results14, go_sem, World.cell?_alloc_past, m1, a0, a1, a2, a3, a4, a5]) rfl ⟨⟨x, _, 0, rfl, ⟨_, rfl, ?_⟩, .inl ⟨rfl, HP.out⟩⟩, ?_⟩
    · have z3 := HZ3.out
      refine rep_end (ListR.ok entry_ok _ _) HVU.out (by simp; omega) (by simp) (fun b hb hl => ?_)
      have hne : b ≠ w.heap.size + 1 := by simp at hb; omega
      rw [Below.heap_alloc _ _ _ (by simpa using hl)]
      simp only [set_other hne]
    · exact ((((((HBL2.out.setCell (by simp) _).setCell (by simp) _).setCell (by simp) _).setCell (by simp) _).setCell (by simp) _).setCell (by simp) _).alloc (by simp; omega) _
  · have hr2 := (hb.block _ (lt_of_heap HR1.out)).trans HR1.out
    have hz2 := (hb.block _ (lt_of_heap HZ1.out)).trans HZ1.out
    have m1 := lt_of_heap hr2
    have m2 := lt_of_heap hz2
    obtain ⟨a0, a1, a2, a3, a4, a5, af⟩ := cells6 hr2
    obtain ⟨b0, b1, b2, b3, b4, b5, bf⟩ := cells6 hz2
    have HBL2 := hide (HBA.out.trans (hb.mono HBA.out.size))
    have HN := hide hno
    unfold zeroPv
    clear hb hno hr2 hz2 HCA
    go_wp2
    refine bodyPost_ret (v := .tuple #[.agg #[.int .i64 0, .int .i64 0, .slice none 0 0, .int .i64 0, .int .u64 0, .int .u64 0], .int .i64 ((L : Int) + 4), .int .i64 8]) (by simp [results, Try.results14, go_sem, World.cell?_alloc_past, m1, a0, a1, a2, a3, a4, a5]) rfl ⟨⟨zeroPA, _, 8, rfl, zeroP_rep _ _, .inr ⟨rfl, HN.out⟩⟩, ?_⟩
    exact ((((((HBL2.out.setCell (by simp) _).setCell (by simp) _).setCell (by simp) _).setCell (by simp) _).setCell (by simp) _).setCell (by simp) _).alloc (by simp; omega) _
/- decode, of whatever bytes. -/
theorem decodeP_any (a : Option Addr) (cap : Nat) (xs : List Nat) (w : World) (hr : RdA w a xs) (hcap : xs.length ≤ cap) (h256 : ∀ x ∈ xs, x < 256) (hl : xs.length ≤ 1000000) :
    Calls Try.prog 14 #[.slice a xs.length cap, .func (Fn.func 15) #[] #[]] w fun e w' => (∃ v n er, e = .returned (.tuple #[v, .int .i64 n, .int .i64 er]) ∧ DecA repP RepR w w' xs v n er) ∧ Below w.heap.size w w' := by
  by_cases h4 : xs.length < 4
  · exact (decodeP_err a xs.length cap 9 w rfl ((bodyOf_few a xs.length cap _ h4).mono (fun e W' ⟨h1, h2⟩ => ⟨h1, by rw [h2]; exact Below.refl _ _⟩))).mono (fun e W' ⟨h1, h2⟩ => ⟨⟨_, _, _, h1, zeroPA, zeroP_rep _ _, .inl ⟨hd4_few h4, rfl, rfl⟩⟩, h2⟩)
  · obtain ⟨x0, x1, x2, x3, ys, rfl⟩ := four_of xs (by omega)
    obtain ⟨q, off, rfl, hq, hx⟩ := hr.some (by simp)
    have hB := bodyOf_any q off cap x0 x1 x2 x3 ys (startP w) (Bs.fr (xs := x0 :: x1 :: x2 :: x3 :: ys) hx (E := fun _ => False) (Fr.ofBelow (startP_below w)) (by simp)) h256 (by simpa using hcap) (by simp at hl; omega)
    have eh : hd4 (x0 :: x1 :: x2 :: x3 :: ys) = some (val4 x0 x1 x2 x3, ys) := rfl
    rcases (by omega : 65536 < val4 x0 x1 x2 x3 ∨ (val4 x0 x1 x2 x3 ≤ 65536 ∧ ys.length < val4 x0 x1 x2 x3) ∨ (val4 x0 x1 x2 x3 ≤ 65536 ∧ val4 x0 x1 x2 x3 ≤ ys.length)) with h1 | ⟨h1, h2⟩ | ⟨h1, h2⟩
    · refine (decodeP_err _ _ cap 3 w rfl (hB.mono (fun e W' ⟨k1, k2⟩ => ⟨?_, k2⟩))).mono (fun e W' ⟨k1, k2⟩ => ⟨⟨_, _, _, k1, zeroPA, zeroP_rep _ _, .inr ⟨_, ys, eh, .inl ⟨h1, rfl, rfl⟩⟩⟩, k2⟩)
      rcases k1 with ⟨_, k⟩ | ⟨k, _⟩ | ⟨k, _⟩
      · exact k
      · omega
      · omega
    · refine (decodeP_err _ _ cap 9 w rfl (hB.mono (fun e W' ⟨k1, k2⟩ => ⟨?_, k2⟩))).mono (fun e W' ⟨k1, k2⟩ => ⟨⟨_, _, _, k1, zeroPA, zeroP_rep _ _, .inr ⟨_, ys, eh, .inr (.inl ⟨h1, h2, rfl, rfl⟩)⟩⟩, k2⟩)
      rcases k1 with ⟨k, _⟩ | ⟨_, _, k⟩ | ⟨_, k, _⟩
      · omega
      · exact k
      · simp at k; omega
    · have hlen : (ys.take (val4 x0 x1 x2 x3)).length = val4 x0 x1 x2 x3 := by simp; omega
      refine (decodeP_body _ _ cap q (ys.take (val4 x0 x1 x2 x3)) w (by omega) (fun x hx => h256 x (List.mem_cons_of_mem _ (List.mem_cons_of_mem _ (List.mem_cons_of_mem _ (List.mem_cons_of_mem _ (List.mem_of_mem_take hx)))))) hq (hB.mono (fun e W' ⟨k1, k2⟩ => ?_))).mono (fun e W' ⟨⟨x, v, er, k1, k3, k4⟩, k2⟩ => ⟨⟨_, _, _, k1, x, k3, .inr ⟨_, ys, eh, .inr (.inr ⟨h1, h2, by rw [hlen], k4⟩)⟩⟩, k2⟩)
      rcases k1 with ⟨k, _⟩ | ⟨_, k, _⟩ | ⟨_, _, o, c, k3, k4, k5⟩
      · omega
      · simp at k; omega
      · exact ⟨o, c, by rw [hlen]; exact k3, by rw [hlen]; exact k4, k5, k2⟩
set_option maxHeartbeats 4000000 in
theorem decReply_any (a : Option Addr) (cap : Nat) (xs : List Nat) (w : World) (hr : RdA w a xs) (hcap : xs.length ≤ cap) (h256 : ∀ x ∈ xs, x < 256) (hl : xs.length ≤ 1000000) :
    Calls Try.prog 8 #[.slice a xs.length cap] w fun e w' => (∃ v n er, e = .returned (.tuple #[v, .int .i64 n, .int .i64 er]) ∧ DecA repP RepR w w' xs v n er) ∧ Below w.heap.size w w' := by
  have HB0 : Hid (Below w.heap.size w (w.alloc zeroP)) := hide ((Below.refl _ w).alloc (Nat.le_refl _) _)
  have HD := hide (decodeP_any a cap xs (w.alloc zeroP) (hr.below HB0.out) hcap h256 hl)
  have HS := hide (heap_alloc_new w zeroP)
  unfold zeroP at HB0 HD HS
  clear hr hcap h256 hl
  go_enter Try.func8, Try.ntmps8
  go_wp2_with fail
  refine HD.out.mono ?_
  rintro e w1 ⟨⟨v, n, er, rfl, x, hv, hx⟩, hb⟩
  obtain ⟨vu, rfl, hvu⟩ := hv
  obtain ⟨ua, uc, rfl⟩ := list_slice hvu
  obtain ⟨a0, a1, a2, a3, a4, a5, af⟩ := cells6 ((hb.block _ (lt_of_heap HS.out)).trans HS.out)
  have HBL := hide (HB0.out.trans (hb.mono HB0.out.size))
  have HVU := hide hvu
  have HX := hide hx
  clear hb hvu hx HD
  go_wp2
  refine bodyPost_ret (v := .tuple #[.agg #[.int .i64 x.err, .int .i64 x.at', .slice ua x.ents.length uc, .int .i64 x.val.w, .int .u64 x.val.hi, .int .u64 x.val.lo], .int .i64 n, .int .i64 er]) (by simp [results, Try.results8, go_sem, a0, a1, a2, a3, a4, a5]) rfl ⟨⟨_, n, er, rfl, x, ⟨_, rfl, ?_⟩, HX.out⟩, ?_⟩
  · refine rep_end (ListR.ok entry_ok _ _) HVU.out (by simp) (by simp) (fun b hb hl => ?_)
    have hne : b ≠ w.heap.size := by simp at hb; omega
    simp only [set_other hne]
  · exact (((((HBL.out.setCell (Nat.le_refl _) _).setCell (Nat.le_refl _) _).setCell (Nat.le_refl _) _).setCell (Nat.le_refl _) _).setCell (Nat.le_refl _) _).setCell (Nat.le_refl _) _
end Go.Proofs.Ythlfbpadakoamaa
