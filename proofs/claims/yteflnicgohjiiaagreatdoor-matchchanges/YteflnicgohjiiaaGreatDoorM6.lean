/- Pieces of the proof: MtF, Class, MtG. -/
import Derived.Test.YteflnicgohjiiaaGreatDoorM5
import Derived.BigQuiet
import Derived.Test.YteflnicgohjiiaaGreatDoorM3
/- package match: what stands where; does a table weigh; numbers that may be. -/
namespace Go.Proofs.YteflnicgohjiiaaGreatDoor
open Go.RowKit

set_option maxHeartbeats 1000000 in
theorem index_any (a : Option Addr) (cap : Nat) (ks : List Nat) (c : Nat) (w : World) (hr : RdA w a ks) (hl : ks.length ≤ 140737488355328) : Calls Tryz.prog 215 #[.slice a ks.length cap, .int .u8 (c : Nat)] w fun e w' => e = .returned (.int .i64 (firstI (fun k => k == c) ks)) ∧ w' = w := by
  have HR := hide hr
  clear hr
  go_enter Tryz.func215, Tryz.ntmps215
  go_wp2
  go_loopw [8] (fun i wr => ∃ k : Nat, k ≤ ks.length ∧ i = .int .i64 k ∧ (∀ j (hj : j < k) (hj' : j < ks.length), (ks[j] == c) = false) ∧ wr = w) (fun i _ => ks.length - (intOf i).toNat)
  case atStart => exact ⟨0, by omega, rfl, fun j hj => absurd hj (by omega), rfl⟩
  case round =>
    obtain ⟨k, hk, rfl, hn, hwr⟩ := hrel
    subst wr
    have HN := hide hn
    clear hn
    by_cases hlt : k < ks.length
    · obtain ⟨p, off, rfl, hp, hcl⟩ := HR.out.some (by omega)
      have q0 := hcl k hlt
      have hlI : (k : Int) < (ks.length : Int) := by omega
      clear hcl
      by_cases hc : ks[k] = c
      · have HH := hide (firstI_hit (p := fun k => k == c) hlt (by simp [hc]) (fun j hj => HN.out j hj (by omega)))
        rw [hc] at q0
        clear hc
        go_wp2
        go_ret
        exact ⟨by rw [HH.out]; rfl, rfl⟩
      · have HX : Hid (∀ j (hj : j < k + 1) (hj' : j < ks.length), (ks[j] == c) = false) := fun j hj hj' => by
          by_cases e : j = k
          · subst e; simpa using hc
          · exact HN.out j (by omega) hj'
        generalize ks[k] = d at q0 hc
        have e1 : ((c : Int) == (d : Int)) = false := by simp; omega
        have e2 : ((c : Int) = (d : Int)) = False := by simp; omega
        clear hc
        go_wp2
        go_roundw
        case rel => exact ⟨k + 1, by omega, by go_num, HX.out, by first | rfl | trivial⟩
        case measure => simp [intOf]; omega
    · obtain rfl : k = ks.length := by omega
      have HH := hide (firstI_none (p := fun k => k == c) (l := ks) (fun j hj => HN.out j hj hj))
      go_wp2
      go_ret
      exact ⟨by rw [HH.out]; rfl, rfl⟩
theorem contains_any (a : Option Addr) (cap : Nat) (ks : List Nat) (c : Nat) (w : World) (hr : RdA w a ks) (hl : ks.length ≤ 140737488355328) : Calls Tryz.prog 232 #[.slice a ks.length cap, .int .u8 (c : Nat)] w fun e w' => e = .returned (.bool (ks.any (fun k => k == c))) ∧ w' = w := by
  have H := hide (index_any a cap ks c w hr hl)
  have E := hide (firstI_any (fun k => k == c) ks)
  clear hr hl
  go_enter Tryz.func232, Tryz.ntmps232
  go_wp2_with (go_at_call 215; refine H.out.mono ?_; rintro e w1 ⟨rfl, rfl⟩)
  go_ret
  exact ⟨by rw [← E.out]; simp, rfl⟩
def weighsB (t : Tb) : Bool := t.ks.any (fun k => k == 3) || t.ks.any (fun k => k == 4)
theorem weighs_any (x : TbL) (w : World) (hx : TbR w x) : Calls Tryz.prog 213 #[x.val] w fun e w' => e = .returned (.bool (weighsB x.t)) ∧ Below w.heap.size w w' := by
  obtain ⟨⟨ks, ws, size⟩, ka, kc, wa, wc⟩ := x
  obtain ⟨h1, h2, h3, h4, h5⟩ := hx
  simp only [TbL.val, weighsB] at *
  have H3 : Hid (∀ W, Below w.heap.size w W → _) := fun W hb => contains_any ka kc ks 3 W (h1.below hb) h3
  have H4 : Hid (∀ W, Below w.heap.size w W → _) := fun W hb => contains_any ka kc ks 4 W (h1.below hb) h3
  clear h1 h2 h3 h4 h5
  generalize ks.any (fun k => k == 3) = t3 at *
  generalize ks.any (fun k => k == 4) = t4 at *
  cases t3
  · go_enter Tryz.func213, Tryz.ntmps213
    go_wp2_with fail
    refine (H3.out _ (below1 _ _)).mono ?_
    rintro e w1 ⟨rfl, rfl⟩
    go_wp2_with fail
    refine (H4.out _ (below1 _ _)).mono ?_
    rintro e w1 ⟨rfl, rfl⟩
    go_wp2
    go_ret
    exact ⟨by simp, below1 _ _⟩
  · go_enter Tryz.func213, Tryz.ntmps213
    go_wp2_with fail
    refine (H3.out _ (below1 _ _)).mono ?_
    rintro e w1 ⟨rfl, rfl⟩
    go_wp2
    go_ret
    exact ⟨by simp, below1 _ _⟩
def prioB (t : Tb) (n : Int) : Bool := if weighsB t then fromB 1 n 2147483647 else n == 0
theorem priority_any (x : TbL) (n : Int) (w : World) (hx : TbR w x) : Calls Tryz.prog 223 #[x.val, .int .i64 n] w fun e w' => e = .returned (.bool (prioB x.t n)) ∧ Below w.heap.size w w' := by
  have HW : Hid (∀ W, Below w.heap.size w W → _) := fun W hb => weighs_any x W (hx.below hb)
  have HF : Hid (∀ W, _) := fun W => from_any 1 n 2147483647 W
  clear hx
  simp only [prioB]
  generalize weighsB x.t = t at *
  obtain ⟨⟨ks, ws, size⟩, ka, kc, wa, wc⟩ := x
  simp only [TbL.val] at *
  cases t
  · go_enter Tryz.func223, Tryz.ntmps223
    go_wp2_with fail
    refine (HW.out _ (below1 _ _)).mono ?_
    rintro e w1 ⟨rfl, hb⟩
    go_wp2
    go_ret
    exact ⟨by simp, bstep (below1 _ _) hb⟩
  · go_enter Tryz.func223, Tryz.ntmps223
    go_wp2_with fail
    refine (HW.out _ (below1 _ _)).mono ?_
    rintro e w1 ⟨rfl, hb⟩
    go_wp2_with fail
    refine (HF.out _).mono ?_
    rintro e w2 ⟨rfl, rfl⟩
    go_wp2
    go_ret
    exact ⟨by simp, bstep (below1 _ _) hb⟩
/- Numbers that can be read. -/
theorem badArg_any (b : Nb) (hb : NbR b) : Pure 225 #[b.val] (.bool (!b.ok)) := fun w => by
  obtain ⟨bw, bh, bl⟩ := b
  obtain ⟨_, ⟨h0, h1⟩, ⟨h2, h3⟩⟩ := hb
  simp only at h0 h1 h2 h3
  have HC : Hid (∀ W, _) := fun W => check_any bw bh bl W h0 h1 h2 h3
  clear h0 h1 h2 h3
  simp only [Nb.val, Nb.ok]
  generalize okB bw bh bl = t at *
  go_enter Tryz.func225, Tryz.ntmps225
  go_wp2_with (go_at_call 212; refine (HC.out _).mono ?_; rintro e w1 ⟨rfl, hb⟩)
  go_ret
  exact ⟨rfl, bstep (below1 _ _) hb⟩
set_option maxHeartbeats 1000000 in
theorem indexBad_any (a : Option Addr) (cap : Nat) (l : List Nb) (w : World) (hr : RdN w a l) (hl : l.length ≤ 140737488355328) (hn : ∀ b ∈ l, NbR b) : Calls Tryz.prog 246 #[.slice a l.length cap, .func (.func 225) #[] #[]] w fun e w' => e = .returned (.int .i64 (firstI (fun b => !b.ok) l)) ∧ Below w.heap.size w w' := by
  have HR := hide hr
  have HB := hide hn
  clear hr hn
  go_enter Tryz.func246, Tryz.ntmps246
  go_wp2
  go_loopw [8] (fun i wr => ∃ k : Nat, k ≤ l.length ∧ i = .int .i64 k ∧ (∀ j (hj : j < k) (hj' : j < l.length), (!l[j].ok) = false) ∧ Below w.heap.size w wr) (fun i _ => l.length - (intOf i).toNat)
  case atStart => exact ⟨0, by omega, rfl, fun j hj => absurd hj (by omega), Below.refl _ _⟩
  case round =>
    obtain ⟨k, hk, rfl, hn, hb⟩ := hrel
    have HN := hide hn
    have HW := hide hb
    clear hn hb
    by_cases hlt : k < l.length
    · obtain ⟨p, off, rfl, hp, hcl⟩ := (HR.out.below HW.out).some (by omega)
      obtain ⟨q0, q1, q2⟩ := hcl k hlt
      have hlI : (k : Int) < (l.length : Int) := by omega
      have HC := hide (badArg_any l[k] (HB.out _ (List.getElem_mem hlt)) wr)
      clear hcl
      cases ho : (!l[k].ok)
      · have HX : Hid (∀ j (hj : j < k + 1) (hj' : j < l.length), (!l[j].ok) = false) := fun j hj hj' => by
          by_cases e : j = k
          · subst e; exact ho
          · exact HN.out j (by omega) hj'
        rw [ho] at HC
        clear ho
        generalize l[k] = b at q0 q1 q2 HC
        obtain ⟨bw, bh, bl⟩ := b
        simp only [Nb.val] at *
        go_wp2_with fail
        refine HC.out.mono ?_
        rintro e w1 ⟨rfl, hb⟩
        go_wp2
        go_roundw
        case rel => exact ⟨k + 1, by omega, by go_num, HX.out, bstep HW.out hb⟩
        case measure => simp [intOf]; omega
      · have HH := hide (firstI_hit (p := fun b => !Nb.ok b) hlt ho (fun j hj => HN.out j hj (by omega)))
        rw [ho] at HC
        clear ho
        generalize l[k] = b at q0 q1 q2 HC
        obtain ⟨bw, bh, bl⟩ := b
        simp only [Nb.val] at *
        go_wp2_with fail
        refine HC.out.mono ?_
        rintro e w1 ⟨rfl, hb⟩
        go_wp2
        go_ret
        exact ⟨by rw [HH.out]; rfl, bstep HW.out hb⟩
    · obtain rfl : k = l.length := by omega
      have HH := hide (firstI_none (p := fun b => !Nb.ok b) (l := l) (fun j hj => HN.out j hj hj))
      go_wp2
      go_ret
      exact ⟨by rw [HH.out]; rfl, HW.out⟩
theorem containsBad_any (a : Option Addr) (cap : Nat) (l : List Nb) (w : World) (hr : RdN w a l) (hl : l.length ≤ 140737488355328) (hn : ∀ b ∈ l, NbR b) : Calls Tryz.prog 224 #[.slice a l.length cap, .func (.func 225) #[] #[]] w fun e w' => e = .returned (.bool (l.any (fun b => !b.ok))) ∧ Below w.heap.size w w' := by
  have H := hide (indexBad_any a cap l w hr hl hn)
  have E := hide (firstI_any (fun b => !Nb.ok b) l)
  clear hr hl hn
  go_enter Tryz.func224, Tryz.ntmps224
  go_wp2_with (go_at_call 246; refine H.out.mono ?_; rintro e w1 ⟨rfl, hb⟩)
  go_ret
  exact ⟨by rw [← E.out]; simp, hb⟩
end Go.Proofs.YteflnicgohjiiaaGreatDoor
/- A drawn region walked once, in the text's order, over a class of worlds of one's own: its callees may make memory, and operations whose guard says no are passed over. No program stands in it. -/
namespace Go.Proofs.YteflnicgohjiiaaGreatDoor
open Go

theorem wp_region_class {P : Program} {X : Type} (f : X → World) {id : Nat} {Q : Exit → Act → World → Prop} {a : Act} {w : World} {l : List Oper} (hm : P.follows .mixedOrders = true) (hB : Region.lexB .any l.toArray = true) (hC : ∃ x, { w with drawn := w.drawn + 1 } = f x)
    (h : wpQuiet P l.toArray (fun w' => ∃ x, w' = f x) (fun a' => ∀ w', (∃ x, w' = f x) → Q .normal a' w') l a) : (Code.region id l.toArray true).wp P Q a w :=
  wp_region_quiet (C := fun w' => ∃ x, w' = f x) hm hB hC (by simpa using h)
theorem class_of (S : World → Prop) (w0 : World) (h : S w0) : ∃ (X : Type) (f : X → World), Nonempty X ∧ (∀ x, S (f x)) ∧ ∀ w', S w' → ∃ x, w' = f x :=
  ⟨{ w // S w }, Subtype.val, ⟨⟨w0, h⟩⟩, fun x => x.2, fun w' h => ⟨⟨w', h⟩, rfl⟩⟩
end Go.Proofs.YteflnicgohjiiaaGreatDoor
/- package match: the rows of kinds. -/
namespace Go.Proofs.YteflnicgohjiiaaGreatDoor
open Go.RowKit

def kindsL : List Value := [.nilFunc, .nilFunc, .func (.func 233) #[] #[], .func (.func 234) #[] #[], .func (.func 235) #[] #[], .func (.func 237) #[] #[], .func (.func 238) #[] #[], .func (.func 240) #[] #[], .func (.func 242) #[] #[], .func (.func 244) #[] #[]]
set_option maxRecDepth 100000 in
theorem sz_kinds : ∀ w : World, (sizeOf 323).run Tryz.prog w = .ok 10 w := fun w => by rfl
set_option maxRecDepth 100000 in
theorem ag_kinds : ∀ w : World, (isAgg 323).run Tryz.prog w = .ok true w := fun w => by rfl
theorem kinds_one : ∀ v ∈ kindsL, v.oneCell' = true := by
  intro v hv
  simp only [kindsL, List.mem_cons, List.not_mem_nil, or_false] at hv
  rcases hv with rfl | rfl | rfl | rfl | rfl | rfl | rfl | rfl | rfl | rfl <;> rfl
@[go_sem] theorem run_store_func (P : Program) (w : World) (a : Addr) (fn : Fn) (x y : Array Value) (m : Mode) : (store a (.func fn x y) m).run P w = match w.cell? a with | some _ => if w.frozen? a then .halt (.unsupported (.unsafePointer "a write to bytes that a string shares")) w else .ok () (w.setCell a (.func fn x y)) | none => match w.farStore P a (.func fn x y) (m == .atomic) with | .ok (w', _) => .ok () w' | .error h => .halt h w := run_store P w a _ m rfl
@[go_sem] theorem run_store_nilf (P : Program) (w : World) (a : Addr) (m : Mode) : (store a .nilFunc m).run P w = match w.cell? a with | some _ => if w.frozen? a then .halt (.unsupported (.unsafePointer "a write to bytes that a string shares")) w else .ok () (w.setCell a .nilFunc) | none => match w.farStore P a .nilFunc (m == .atomic) with | .ok (w', _) => .ok () w' | .error h => .halt h w := run_store P w a _ m rfl
set_option maxHeartbeats 4000000 in
theorem kinds_any : Pure 218 #[] (.agg kindsL.toArray) := fun w => by
  go_enter Tryz.func218, Tryz.ntmps218
  go_wp2
  exact bodyPost_ret (res_cell (cs := kindsL) Tryz.results218 rfl ag_kinds sz_kinds (heap_alloc_new w _)) rfl ⟨rfl, below1 _ _⟩
/- Matches that can be read. -/
def RdX (W : World) (a : Option Addr) (l : List Mx) : Prop :=
  l = [] ∨ ∃ p off, a = some ⟨p, off, none⟩ ∧ p < W.heap.size ∧ ∀ i (h : i < l.length), W.cell? ⟨p, off + i * 7, none⟩ = some (.int .i64 l[i].v.w) ∧ W.cell? ⟨p, off + i * 7 + 1, none⟩ = some (.int .u64 l[i].v.hi) ∧ W.cell? ⟨p, off + i * 7 + 2, none⟩ = some (.int .u64 l[i].v.lo) ∧ W.cell? ⟨p, off + i * 7 + 3, none⟩ = some (.int .i64 l[i].m.w) ∧ W.cell? ⟨p, off + i * 7 + 4, none⟩ = some (.int .u64 l[i].m.hi) ∧ W.cell? ⟨p, off + i * 7 + 5, none⟩ = some (.int .u64 l[i].m.lo) ∧ W.cell? ⟨p, off + i * 7 + 6, none⟩ = some (.int .i64 l[i].len)
theorem RdX.below {W W' : World} {a : Option Addr} {l : List Mx} (h : RdX W a l) (hb : Below W.heap.size W W') : RdX W' a l := by
  rcases h with h | ⟨p, off, rfl, hp, hc⟩
  · exact .inl h
  · refine .inr ⟨p, off, rfl, Nat.lt_of_lt_of_le hp hb.size, fun i hi => ?_⟩
    obtain ⟨h0, h1, h2, h3, h4, h5, h6⟩ := hc i hi
    exact ⟨(hb.cell (p := ⟨p, _, none⟩) hp).trans h0, (hb.cell (p := ⟨p, _, none⟩) hp).trans h1, (hb.cell (p := ⟨p, _, none⟩) hp).trans h2, (hb.cell (p := ⟨p, _, none⟩) hp).trans h3, (hb.cell (p := ⟨p, _, none⟩) hp).trans h4, (hb.cell (p := ⟨p, _, none⟩) hp).trans h5, (hb.cell (p := ⟨p, _, none⟩) hp).trans h6⟩
theorem RdX.some {W : World} {a : Option Addr} {l : List Mx} (h : RdX W a l) (hx : 0 < l.length) : ∃ p off, a = Option.some ⟨p, off, none⟩ ∧ p < W.heap.size ∧ ∀ i (h : i < l.length), W.cell? ⟨p, off + i * 7, none⟩ = Option.some (.int .i64 l[i].v.w) ∧ W.cell? ⟨p, off + i * 7 + 1, none⟩ = Option.some (.int .u64 l[i].v.hi) ∧ W.cell? ⟨p, off + i * 7 + 2, none⟩ = Option.some (.int .u64 l[i].v.lo) ∧ W.cell? ⟨p, off + i * 7 + 3, none⟩ = Option.some (.int .i64 l[i].m.w) ∧ W.cell? ⟨p, off + i * 7 + 4, none⟩ = Option.some (.int .u64 l[i].m.hi) ∧ W.cell? ⟨p, off + i * 7 + 5, none⟩ = Option.some (.int .u64 l[i].m.lo) ∧ W.cell? ⟨p, off + i * 7 + 6, none⟩ = Option.some (.int .i64 l[i].len) := by
  rcases h with rfl | h
  · simp at hx
  · exact h
/- What each kind asks, by its number. -/
def mayF (k : Nat) : Nat := match k with | 1 => 233 | 2 => 235 | 3 => 238 | _ => 242
def matF (k : Nat) : Nat := match k with | 1 => 234 | 2 => 237 | 3 => 240 | _ => 244
theorem mayF_any (k : Nat) (h1 : 1 ≤ k) (h4 : k ≤ 4) (x : Mx) (n : Int) (hx : MxR x) (hn : n < 9223372036854775808) : Pure (mayF k) #[x.val, .int .i64 n] (.bool (mayK k x n)) := by
  rcases (by omega : k = 1 ∨ k = 2 ∨ k = 3 ∨ k = 4) with rfl | rfl | rfl | rfl
  · exact exactMay_any x n
  · exact prefixMay_any x n hn
  · exact maskMay_any x n hx
  · exact rangeMay_any x n hx
theorem matF_any (k : Nat) (h1 : 1 ≤ k) (h4 : k ≤ 4) (x : Mx) (key : Nb) (hx : MxR x) (hn : key.w < 9223372036854775808) : Pure (matF k) #[x.val, key.val] (.bool (matK k x key)) := by
  rcases (by omega : k = 1 ∨ k = 2 ∨ k = 3 ∨ k = 4) with rfl | rfl | rfl | rfl
  · exact exactMat_any x key
  · exact begins_any x key hn
  · exact maskMat_any x key hx
  · exact rangeMat_any x key hx
theorem kindsL_may (k : Nat) (h1 : 1 ≤ k) (h4 : k ≤ 4) : kindsL[k * 2]? = some (.func (.func (mayF k)) #[] #[]) := by
  rcases (by omega : k = 1 ∨ k = 2 ∨ k = 3 ∨ k = 4) with rfl | rfl | rfl | rfl <;> rfl
theorem kindsL_mat (k : Nat) (h1 : 1 ≤ k) (h4 : k ≤ 4) : kindsL[k * 2 + 1]? = some (.func (.func (matF k)) #[] #[]) := by
  rcases (by omega : k = 1 ∨ k = 2 ∨ k = 3 ∨ k = 4) with rfl | rfl | rfl | rfl <;> rfl
/- The block of the rows, and the block of a table. -/
def KiB (W : World) (b : Nat) : Prop := W.heap[b]? = some (.cells kindsL.toArray 323 (0, 0))
def TbB (W : World) (b : Nat) (x : TbL) : Prop := W.heap[b]? = some (.cells #[.slice x.ka x.t.ks.length x.kc, .slice x.wa x.t.ws.length x.wc, .int .i64 x.t.size] 25 (0, 0))
end Go.Proofs.YteflnicgohjiiaaGreatDoor
