/- Pieces of the proof: CeV, CeY. -/
import Derived.Test.YtbemfjdloeipmaaGreatDoorM22
import Derived.Test.YtbemfjdloeipmaaGreatDoorM24
import Derived.Test.YtbemfjdloeipmaaGreatDoorM18
/- CellsRate, as plain data. -/
namespace Go.Proofs.YtbemfjdloeipmaaGreatDoor
open Go.RowKit

def rtA (r B tok last : Int) : Ar := ⟨⟨#[109]⟩, 5, 64, r, B, [⟨64, 0, tok⟩], [last]⟩
def tokR (r B tok last now : Int) : Int := min (tok + min (max (now - last) 0) B * r) B
theorem rt_tok (r B tok last now : Int) : tokA (rtA r B tok last) 0 now = tokR r B tok last now := rfl
theorem rt_met (r B tok last now : Int) : metA (rtA r B tok last) 0 now = rtA r B (tokR r B tok last now - min (tokR r B tok last now) 1) (max last now) := rfl
theorem rt_zero (r B : Int) (hb : 0 ≤ B) (hb1 : B ≤ 65535) : meterA ⟨#[109]⟩ 1 r B = rtA r B B 0 := by
  have : IntKind.u64.wrap B = B := by rw [IntKind.wrap_u64]; omega
  unfold meterA rtA
  rw [this]
  rfl
theorem ok64i {v : Int} (h0 : 0 ≤ v) (h : v < 18446744073709551616) : (⟨64, 0, v⟩ : Nb).ok = true := by
  have h1 : cLo 64 v = v := by
    rw [cLo_le (by decide)]
    have : (2 : Int) ^ (64 : Int).toNat = 18446744073709551616 := by decide
    rw [this]; omega
  have h2 : cHi 64 0 = 0 := cHi_le (by decide)
  simp [Nb.ok, okB, mayBe, h1, h2]
structure RtOk (r B tok last : Int) : Prop where
  r0 : 0 ≤ r
  r1 : r ≤ 65535
  b0 : 1 ≤ B
  b1 : B ≤ 65535
  t0 : 0 ≤ tok
  t1 : tok ≤ B
  l0 : 0 ≤ last
  l1 : last < 9223372036854775808
theorem rt_may {r B tok last : Int} (h : RtOk r B tok last) : mayA (rtA r B tok last) = true := by
  have r0 := h.r0
  have r1 := h.r1
  have b0 := h.b0
  have b1 := h.b1
  have t0 := h.t0
  have t1 := h.t1
  have l0 := h.l0
  have hw : IntKind.u64.wrap B = B := by rw [IntKind.wrap_u64]; omega
  have ho : (⟨64, 0, tok⟩ : Nb).ok = true := ok64i t0 (by omega)
  have hh : holdsB (rtA r B tok last) ⟨64, 0, tok⟩ = true := by
    simp only [holdsB, rtA, ho, hw, beq_self_eq_true, Bool.true_and, Bool.not_true, Bool.false_or, decide_eq_true_eq]
    exact t1
  have ht : ticksB (rtA r B tok last) = true := by
    simp [ticksB, rtA]; omega
  have hf : frameB (rtA r B tok last) = true := by
    unfold frameB
    rw [if_neg (by show ¬ (5 : Int) = 3; decide), if_neg (by show ¬ (5 : Int) = 4; decide), if_pos (show (rtA r B tok last).kind = 5 from rfl), ht]
    have f1 : fromB 0 r 65535 = true := by unfold fromB; rw [decide_eq_true r0, decide_eq_true r1]; rfl
    have f2 : fromB 1 B 65535 = true := by unfold fromB; rw [decide_eq_true b0, decide_eq_true b1]; rfl
    show (((64 : Int) == 64) && (fromB 0 r 65535 && (fromB 1 B 65535 && true))) = true
    rw [f1, f2]; rfl
  have hn : fromB 1 (rtA r B tok last).cs.length 4096 = true := rfl
  have ha : (rtA r B tok last).cs.any (fun b => !holdsB (rtA r B tok last) b) = false := by
    show ([⟨64, 0, tok⟩] : List Nb).any (fun b => !holdsB (rtA r B tok last) b) = false
    simp [hh]
  unfold mayA
  rw [hf, hn, ha]; rfl
theorem rt_g {r B tok last : Int} (h : RtOk r B tok last) : ArG (rtA r B tok last) := by
  have r0 := h.r0
  have r1 := h.r1
  have b0 := h.b0
  have b1 := h.b1
  have t0 := h.t0
  have t1 := h.t1
  have l0 := h.l0
  have l1 := h.l1
  refine ⟨by show 1 ≤ 140737488355328; decide, by show 1 ≤ 140737488355328; decide, fun b hb => ?_, fun n hn => ?_, i64s, ⟨by show -9223372036854775808 ≤ r; omega, by show r < 9223372036854775808; omega⟩, ⟨by show -9223372036854775808 ≤ B; omega, by show B < 9223372036854775808; omega⟩, ⟨by show (0 : Int) ≤ 5; decide, by show (5 : Int) < 256; decide⟩⟩
  · rw [List.mem_singleton.1 hb]
    exact ⟨i64s, u64z, ⟨t0, by show tok < 18446744073709551616; omega⟩⟩
  · rw [List.mem_singleton.1 hn]
    exact ⟨by omega, l1⟩
theorem rt_find {r B tok last : Int} (h : RtOk r B tok last) : (findA 5 (rtA r B tok last) ⟨1, 0, 0⟩).2 = 0 := by
  unfold findA
  rw [rt_may h]
  have e1 : (⟨1, 0, 0⟩ : Nb).ok = true := by kernel_rfl
  have e0 : ((rtA r B tok last).kind == 5) = true := rfl
  rw [e0, e1, Bool.true_and, Bool.true_and, if_pos rfl, if_pos ⟨rfl, by show (0 : Int) < 1; decide⟩]
theorem rt_next {r B tok last now : Int} (h : RtOk r B tok last) (hn : last ≤ now) (h1 : now < 9223372036854775808) : RtOk r B (tokR r B tok last now - min (tokR r B tok last now) 1) now ∧ 0 ≤ min (tokR r B tok last now) 1 ∧ min (tokR r B tok last now) 1 ≤ 1 ∧ tokR r B tok last now ≤ tok + (now - last) * r := by
  obtain ⟨r0, r1, b0, b1, t0, t1, l0, l1⟩ := h
  have hd : 0 ≤ min (max (now - last) 0) B ∧ min (max (now - last) 0) B ≤ now - last := by
    simp only [Int.min_def, Int.max_def]; split <;> (try split) <;> omega
  have hm := Int.mul_nonneg hd.1 r0
  have hm2 : min (max (now - last) 0) B * r ≤ (now - last) * r := Int.mul_le_mul_of_nonneg_right hd.2 r0
  have ht : 0 ≤ tokR r B tok last now ∧ tokR r B tok last now ≤ B ∧ tokR r B tok last now ≤ tok + (now - last) * r := by
    unfold tokR
    generalize min (max (now - last) 0) B * r = z at *
    generalize (now - last) * r = y at *
    rw [Int.min_def]
    split <;> omega
  generalize tokR r B tok last now = t at *
  generalize (now - last) * r = y at *
  have hmin : 0 ≤ min t 1 ∧ min t 1 ≤ 1 ∧ min t 1 ≤ t := by simp only [Int.min_def]; split <;> omega
  exact ⟨⟨r0, r1, b0, b1, by omega, by omega, by omega, h1⟩, hmin.1, hmin.2.1, ht.2.2⟩
theorem rt_meter {r B tok last now : Int} (h : RtOk r B tok last) (hn : last ≤ now) (h1 : now < 9223372036854775808) {Bb : Nat} (W : World) (ca la : Option Addr) (ha : ArN W Bb (rtA r B tok last) ca la) :
    Calls Tryz.prog 10 #[.agg #[.string ⟨#[109]⟩, .int .u8 5, .int .i64 64, .int .i64 r, .int .i64 B, .slice ca 1 1, .slice la 1 1], .agg #[.int .i64 1, .int .u64 0, .int .u64 0], .int .i64 now] W fun e w' => ∃ ca1 la1, e = .returned (.tuple #[.agg #[.string ⟨#[109]⟩, .int .u8 5, .int .i64 64, .int .i64 r, .int .i64 B, .slice ca1 1 1, .slice la1 1 1], .agg #[.int .i64 1, .int .u64 0, .int .u64 (min (tokR r B tok last now) 1)], .int .i64 0]) ∧ ArN w' W.heap.size (rtA r B (tokR r B tok last now - min (tokR r B tok last now) 1) now) ca1 la1 ∧ Below W.heap.size W w' := by
  have hl := h.l0
  have i1 : i64R 1 := ⟨by decide, by decide⟩
  have := meter_yes ⟨rtA r B tok last, ca, 1, la, 1⟩ ⟨1, 0, 0⟩ now W (ha.r (rt_g h)) ⟨i1, u64z, u64z⟩ (by omega) h1 (rt_find h)
  have e0 : (Int.toNat (0 : Int)) = 0 := rfl
  simp only [e0, rt_tok, rt_met] at this
  rw [show max last now = now from by simp only [Int.max_def]; split <;> omega] at this
  exact this
/- One array in a list of its own. -/
theorem check_one (x : ArL) (p : Nat) (W : World) (hx : ArR W x) (hm : mayA x.a = true) (hp : W.heap[p]? = some (.cells x.cells.toArray 26 (0, 0))) : Calls Tryz.prog 22 #[.slice (some ⟨p, 0, none⟩) 1 1] W fun e w' => e = .returned (.bool true) ∧ Below W.heap.size W w' := by
  have := check14_any (some ⟨p, 0, none⟩) 1 [x] W ⟨.inr ⟨p, 0, rfl, lt_heap hp, fun i hi j u hu => ?_⟩, fun y hy => by rw [List.mem_singleton.1 hy]; exact hx⟩ (by simp)
  · have e : ([x] : List ArL).all (fun x => mayA x.a) = true := by simp [hm]
    rw [e] at this
    exact this
  · obtain rfl : i = 0 := by simp at hi; omega
    rw [blk_cell hp, Nat.zero_mul, Nat.zero_add]
    exact hu
end Go.Proofs.YtbemfjdloeipmaaGreatDoor
/- CellsKeep, as plain data; and what lies there while it goes on. -/
namespace Go.Proofs.YtbemfjdloeipmaaGreatDoor
open Go.RowKit

theorem holds_put (a : Ar) (k : Nat) (v b : Nb) : holdsB (a.put k v) b = holdsB a b := rfl
theorem may_holds {a : Ar} (h : mayA a = true) : ∀ b ∈ a.cs, holdsB a b = true := fun b hb => by
  simp only [mayA, Bool.and_eq_true] at h
  have h3 := h.2.2
  rw [Bool.not_eq_true'] at h3
  have := List.any_eq_false.1 h3 b hb
  simpa using this
theorem may_put {a : Ar} {k : Nat} {v : Nb} (h : mayA a = true) (hv : holdsB a v = true) : mayA (a.put k v) = true := by
  have hb := may_holds h
  have hl : (a.put k v).cs.length = a.cs.length := by simp [Ar.put]
  have h' := h
  simp only [mayA, Bool.and_eq_true] at h'
  have ha : (a.put k v).cs.any (fun b => !holdsB (a.put k v) b) = false := by
    rw [List.any_eq_false]
    intro b hm
    rw [holds_put]
    rcases List.mem_or_eq_of_mem_set hm with h1 | h1
    · simp [hb b h1]
    · simp [h1, hv]
  have hf : frameB (a.put k v) = frameB a := by
    have ht : ticksB (a.put k v) = ticksB a := by unfold ticksB; rw [hl]; rfl
    unfold frameB
    rw [ht]; rfl
  unfold mayA
  rw [ha, hf, hl, h'.1, h'.2.1]; rfl
theorem find_put {a : Ar} {k : Nat} {v i : Nb} (h : mayA a = true) (hv : holdsB a v = true) : findA 3 (a.put k v) i = findA 3 a i := by
  have hl : (a.put k v).cs.length = a.cs.length := by simp [Ar.put]
  unfold findA
  rw [may_put h hv, h, hl]; rfl
theorem put_put {a : Ar} {k : Nat} {v : Nb} (h : k < a.cs.length) : (a.put k v).put k (a.cs.getD k nb0) = a := by
  have : a.cs.getD k nb0 = a.cs[k] := by rw [List.getD_eq_getElem?_getD, List.getElem?_eq_getElem h]; rfl
  rw [this]
  unfold Ar.put
  simp
theorem put_get {a : Ar} {k : Nat} {v : Nb} (h : k < a.cs.length) : (a.put k v).cs.getD k nb0 = v := by
  unfold Ar.put
  rw [List.getD_eq_getElem?_getD, List.getElem?_set_self h]; rfl
theorem put_g {a : Ar} {k : Nat} {v : Nb} (h : ArG a) (hv : NbR v) : ArG (a.put k v) := by
  refine ⟨by simp only [Ar.put, List.length_set]; exact h.cn, h.ln, fun b hb => ?_, h.lr, h.wr, h.rr, h.br, h.kr⟩
  rcases List.mem_or_eq_of_mem_set hb with h1 | h1
  · exact h.cr b h1
  · rw [h1]; exact hv
theorem ArR.g {W : World} {x : ArL} (h : ArR W x) : ArG x.a := ⟨h.cn, h.ln, h.cr, h.lr, h.wr, h.rr, h.br, h.kr⟩
theorem count_kind {a : Ar} {i : Nb} (h : a.kind = 3) : countC a i = 1 := by
  unfold countC findA
  have : (a.kind == 4) = false := by rw [h]; rfl
  rw [this, Bool.false_and, if_neg (by decide)]
/- The three boxes of the arguments. -/
structure Kp (W : World) (b0 : Nat) (A : Array Value) (iw ih il vw vh vl : Int) : Prop where
  a : W.heap[b0]? = some (.cells A 26 (0, 0))
  i : W.heap[b0 + 1]? = some (.cells #[.int .i64 iw, .int .u64 ih, .int .u64 il] 29 (0, 0))
  v : W.heap[b0 + 1 + 1]? = some (.cells #[.int .i64 vw, .int .u64 vh, .int .u64 vl] 29 (0, 0))
theorem Kp.below {W W' : World} {b0 : Nat} {A : Array Value} {iw ih il vw vh vl : Int} (h : Kp W b0 A iw ih il vw vh vl) (hb : Below W.heap.size W W') : Kp W' b0 A iw ih il vw vh vl := ⟨heap_below hb h.a, heap_below hb h.i, heap_below hb h.v⟩
theorem ranN_mem {a : Ar} (h : ArG a) (k : Nat) (hk : k < a.cs.length) : NbR (a.cs.getD k nb0) := by
  rw [List.getD_eq_getElem?_getD, List.getElem?_eq_getElem hk]
  exact h.cr _ (List.getElem_mem hk)
end Go.Proofs.YtbemfjdloeipmaaGreatDoor
