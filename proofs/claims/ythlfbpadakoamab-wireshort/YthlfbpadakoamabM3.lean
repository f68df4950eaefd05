/- Pieces of the proof: WBy, WC, WM. -/
import Derived.Test.YthlfbpadakoamabM2
import Derived.RegionTactic
/- bits.Bytes, and bytes held against bytes. -/
namespace Go.Proofs.Ythlfbpadakoamab
open Go.RowKit

def byteAt (u N j : Nat) : Nat := u / 2 ^ (8 * (N - 1 - j)) % 256
def byteTo (u N k : Nat) : List Value := (List.range N).map (fun j => Value.int .u8 (((if j < k then byteAt u N j else 0 : Nat)) : Int))
theorem byteTo_length (u N k : Nat) : (byteTo u N k).length = N := by simp [byteTo]
theorem byteTo_set (u N k : Nat) : (byteTo u N k).set k (.int .u8 (byteAt u N k : Nat)) = byteTo u N (k + 1) := by
  refine List.ext_getElem (by simp [byteTo]) fun i h1 h2 => ?_
  rw [List.getElem_set]
  by_cases e : k = i
  · subst e; simp [byteTo]
  · simp only [if_neg e, byteTo, List.getElem_map, List.getElem_range]
    congr 2
    by_cases hi : i < k
    · rw [if_pos hi, if_pos (by omega)]
    · rw [if_neg hi, if_neg (by omega)]
theorem made8 (N : Nat) (u : Nat) : (madeCells (Value.int .u8 0).cells (N * 1)).toList = byteTo u N 0 := by
  refine List.ext_getElem (by simp [madeCells, byteTo]) fun i h1 h2 => ?_
  simp [madeCells, byteTo, Value.cells, Nat.mod_one]
theorem Try.info5 : (Try.prog.info? 5).map (fun i => (i.zero, i.size, i.bytes)) = some (some (.int .u8 0), 1, 1) := by kernel_rfl
theorem byteCount_any (n : Int) (w : World) (h0 : 1 ≤ n) (h1 : n ≤ 128) :
    Calls Try.prog 84 #[.int .i64 n] w fun e w' => e = .returned (.int .i64 ((((n.toNat + 7) / 8 : Nat)) : Int)) ∧ w' = w := by
  go_enter Try.func84, Try.ntmps84
  go_wp2
  go_ret
  exact ⟨ret_int (by omega), rfl⟩
theorem byte_lo (u N k : Nat) : wLo (u / 2 ^ (8 * (N - 1 - k))) % 256 = ((byteAt u N k : Nat) : Int) := by
  rw [wLo_nat]
  unfold byteAt
  generalize u / 2 ^ (8 * (N - 1 - k)) = x
  omega

def okN' (n : Int) (v : Nat) : Bool := mayBe n && decide (v < 2 ^ n.toNat)
theorem own_base {w : World} {B B' : Nat} {e : TypeId} {v : Value} {k : Nat} {xs : List Value} (h : w.ownsRow B e 1 v k xs) (hB : B' ≤ B) : w.ownsRow B' e 1 v k xs := by
  refine ⟨h.1, ?_⟩
  rcases h.2 with h0 | ⟨g, cap, cur, hv, hg, rest⟩
  · exact .inl h0
  · exact .inr ⟨g, cap, cur, hv, Nat.le_trans hB hg, rest⟩

set_option maxHeartbeats 2000000 in
theorem bytes_yes (n : Int) (u : Nat) (w : World) (hu : u < top) (b0 : 1 ≤ n) (b1 : n ≤ 128) (b2 : u < 2 ^ n.toNat) :
    Calls Try.prog 77 #[.agg #[.int .i64 n, .int .u64 (wHi u), .int .u64 (wLo u)]] w fun e w' => ∃ g N, N = (n.toNat + 7) / 8 ∧ e = .returned (.tuple #[.slice (some ⟨g, 0, none⟩) N N, .int .i64 0]) ∧ w'.ownsRow w.heap.size 5 1 (.slice (some ⟨g, 0, none⟩) N N) N (byteTo u N N) ∧ Below w.heap.size w w' := by
  have HC : Hid (∀ W, Calls Try.prog 86 #[.agg #[.int .i64 n, .int .u64 (wHi u), .int .u64 (wLo u)]] W fun e W' => e = .returned (.bool true) ∧ Below W.heap.size W W') := fun W => by
    have h := checkV n u W hu
    have e : (mayBe n && decide (u < 2 ^ n.toNat)) = true := by rw [mayBe_yes b0 b1]; simpa using b2
    rw [e] at h; exact h
  have HD := hide (fun N k X Y W h0 h1 hX hY => downV u (((8 * (N - 1 - k) : Nat)) : Int) X Y W hu h0 h1 hX hY)
  have HB := hide (fun W => byteCount_any n W b0 b1)
  obtain ⟨N, hN⟩ : ∃ N, N = (n.toNat + 7) / 8 := ⟨_, rfl⟩
  have hN16 : N ≤ 16 := by omega
  have hN1 : 1 ≤ N := by omega
  rw [← hN] at HB
  have HNN := hide hN
  clear hN b2
  obtain ⟨i0, hi0, hz0, hz1, hz2⟩ := info_parts Try.info5
  generalize wHi u = h1 at *
  generalize wLo u = l1 at *
  go_enter Try.func77, Try.ntmps77
  go_wp2_with fail
  refine (HC.out _).mono ?_
  rintro e w1 ⟨rfl, hb⟩
  obtain ⟨hc, hf⟩ := bcell hb
  have hz : w.heap.size < w1.heap.size := by have := hb.size; simp at this; omega
  go_wp2_with fail
  refine (HB.out _).mono ?_
  rintro e w2 ⟨rfl, hw⟩
  subst hw
  have hb' : Below (w.heap.size + 1) (w.alloc (.cells #[.int .i64 n, .int .u64 h1, .int .u64 l1] 35)) w2 := hb.mono (by simp)
  go_wp2_with (at_make; refine wpList_make_full _ rfl _ _ 22 rfl (w.heap.size + 1) 5 i0 (.int .u8 0) 1 Try.underlying22 hi0 hz0 hz1 .i64 .i64 _ _ N rfl rfl rfl rfl (by rw [hz2]; omega) (by unfold maxLen; omega) (by omega) ?_; intro W0 hm0 hg0)
  rw [made8 N u] at hm0
  have HM0 := hide hm0
  have HB0 := hide (hb'.grown hg0 (by omega) (fun k e => by cases e))
  have hgg : w.heap.size < w2.heap.size := hz
  clear hm0 hg0 hb hb' hc hf hz
  go_wp2
  go_loopw [17] (fun i wr => ∃ k : Nat, k ≤ N ∧ i = .int .i64 k ∧ wr.ownsRow (w.heap.size + 1) 5 1 (.slice (some ⟨w2.heap.size, 0, none⟩) N N) N (byteTo u N k) ∧ Below (w.heap.size + 1) (w.alloc (.cells #[.int .i64 n, .int .u64 h1, .int .u64 l1] 35)) wr) (fun i _ => N - (intOf i).toNat)
  case atStart => exact ⟨0, Nat.zero_le _, rfl, HM0.out, HB0.out⟩
  case round =>
    obtain ⟨k, hk, rfl, hown, hnx⟩ := hrel
    have HO := hide hown; have HN := hide hnx
    by_cases hlt : k < N
    · have c0 : wr.cell? ⟨w.heap.size, 1, none⟩ = some (.int .u64 h1) := by rw [hnx.cell (by simp)]; simp [go_sem]
      have c1 : wr.cell? ⟨w.heap.size, 2, none⟩ = some (.int .u64 l1) := by rw [hnx.cell (by simp)]; simp [go_sem]
      have hcell : ∃ x, wr.cell? ⟨w2.heap.size, k, none⟩ = some x := by
        have := hown.cellAt k (by omega)
        rw [this, List.getElem?_eq_getElem (by rw [byteTo_length]; exact hlt)]; exact ⟨_, rfl⟩
      obtain ⟨x, hcx⟩ := hcell
      have hfx := hown.frozenAt k
      have ekk : ((8 * (N - 1 - k) : Nat) : Int) = ((N : Int) - 1 - (k : Int)) * 8 := by omega
      have HDk := hide (fun W => HD.out N k _ _ W (by omega) (by omega) rfl rfl)
      rw [ekk] at HDk
      have HY := hide (byte_lo u N k)
      have eT : (((N : Int) - 1 - (k : Int)) * 8).toNat = 8 * (N - 1 - k) := by omega
      rw [eT] at HDk
      clear ekk eT hown hnx
      generalize wHi (u / 2 ^ (8 * (N - 1 - k))) = X at *
      generalize wLo (u / 2 ^ (8 * (N - 1 - k))) = Y at *
      have hw1 : IntKind.u64.wrap ((N : Int) - 1 - (k : Int)) = (N : Int) - 1 - (k : Int) := by rw [IntKind.wrap_u64]; omega
      have hw2 : IntKind.u64.wrap (((N : Int) - 1 - (k : Int)) * 8) = ((N : Int) - 1 - (k : Int)) * 8 := by rw [IntKind.wrap_u64]; omega
      go_wp2_with fail
      refine (HDk.out _).mono ?_
      rintro e w3 ⟨rfl, hw⟩
      subst hw
      go_wp2
      go_roundw
      case rel => exact ⟨k + 1, by omega, by go_num, by rw [HY.out]; have h := (HO.out.stored k (.int .u8 (byteAt u N k : Nat))).1; rw [byteTo_set] at h; exact h, HN.out.setCell (by show w.heap.size + 1 ≤ w2.heap.size; omega) _⟩
      case measure => simp [intOf]; omega
    · have hkk : Hid (k = N) := by unfold Hid; omega
      clear hown hnx
      have hlt' : decide ((k : Int) < (N : Int)) = false := by simpa using hlt
      go_wp2
      go_ret2
      exact ⟨w2.heap.size, N, HNN.out, rfl, by have h := HO.out; rw [hkk.out] at h; exact own_base h (by omega), ((Below.refl _ _).alloc (Nat.le_refl _) _).trans (HN.out.mono (by omega))⟩
theorem bytes_no (n : Int) (u : Nat) (w : World) (hu : u < top) (h : okN' n u = false) :
    Calls Try.prog 77 #[.agg #[.int .i64 n, .int .u64 (wHi u), .int .u64 (wLo u)]] w fun e w' => e = .returned (.tuple #[.slice none 0 0, .int .i64 1]) ∧ Below w.heap.size w w' := by
  have HC : Hid (∀ W, Calls Try.prog 86 #[.agg #[.int .i64 n, .int .u64 (wHi u), .int .u64 (wLo u)]] W fun e W' => e = .returned (.bool false) ∧ Below W.heap.size W W') := fun W => by
    have h2 := checkV n u W hu
    rw [show (mayBe n && decide (u < 2 ^ n.toNat)) = false from h] at h2; exact h2
  clear h
  generalize wHi u = h1 at *
  generalize wLo u = l1 at *
  go_enter Try.func77, Try.ntmps77
  go_wp2_with fail
  refine (HC.out _).mono ?_
  rintro e w1 ⟨rfl, hb⟩
  go_wp2
  go_ret2
  exact ⟨rfl, ((Below.refl _ _).alloc (Nat.le_refl _) _).trans (hb.mono (by simp))⟩

/- Bytes that can be read. -/
def Row8 (w : World) (v : Value) (l : List Nat) : Prop := ∃ b off cap, v = .slice (some ⟨b, off, none⟩) l.length cap ∧ ∀ i (h : i < l.length), w.cell? ⟨b, off + i, none⟩ = some (.int .u8 (l[i] : Nat))
theorem same_yes (l : List Nat) (hl : l.length ≤ 1000) (va vb : Value) (w : World) (ha : Row8 w va l) (hb : Row8 w vb l) :
    Calls Try.prog 9 #[va, vb] w fun e w' => e = .returned (.bool true) ∧ Below w.heap.size w w' := by
  obtain ⟨p, o1, c1, rfl, ha⟩ := ha
  obtain ⟨q, o2, c2, rfl, hb⟩ := hb
  go_enter Try.func9, Try.ntmps9
  go_wp2
  go_loopw [5] (fun i wr => ∃ k : Nat, k ≤ l.length ∧ i = .int .i64 k ∧ Below w.heap.size w wr) (fun i _ => l.length - (intOf i).toNat)
  case atStart => exact ⟨0, Nat.zero_le _, rfl, Below.refl _ _⟩
  case round =>
    obtain ⟨k, hk, rfl, hnx⟩ := hrel
    have HN := hide hnx
    by_cases hlt : k < l.length
    · have hca : wr.cell? ⟨p, o1 + k, none⟩ = some (.int .u8 (l[k] : Nat)) := by
        rw [hnx.cell (World.block_lt_of_cell? w _ (ha k hlt))]; exact ha k hlt
      have hcb : wr.cell? ⟨q, o2 + k, none⟩ = some (.int .u8 (l[k] : Nat)) := by
        rw [hnx.cell (World.block_lt_of_cell? w _ (hb k hlt))]; exact hb k hlt
      have hlI : (k : Int) < (l.length : Int) := by omega
      clear ha hb hnx
      generalize l[k] = x at *
      go_wp2
      go_region
      all_goals
        go_wp2
        go_roundw
        case rel => exact ⟨k + 1, by omega, by go_num, HN.out.drew⟩
        case measure => simp [intOf]; omega
    · clear ha hb hnx
      go_wp2
      go_ret
      exact ⟨rfl, HN.out⟩
end Go.Proofs.Ythlfbpadakoamab
/- bits.Read; package wire: a number that is read. -/
namespace Go.Proofs.Ythlfbpadakoamab
open Go.RowKit

/- Bytes as a number, the highest first. -/
def bv (xs : List Nat) : Nat := xs.foldl (fun u x => u * 256 + x) 0
theorem bv_snoc (xs : List Nat) (x : Nat) : bv (xs ++ [x]) = bv xs * 256 + x := by simp [bv]
theorem bv_lt : ∀ (n : Nat) (xs : List Nat), xs.length = n → (∀ x ∈ xs, x < 256) → bv xs < 256 ^ n
  | 0, xs, h, _ => by obtain rfl : xs = [] := List.length_eq_zero_iff.1 h; simp [bv]
  | n + 1, xs, h, hb => by
    rcases List.eq_nil_or_concat xs with rfl | ⟨ys, x, rfl⟩
    · simp at h
    · rw [List.concat_eq_append] at h hb ⊢
      have h1 : ys.length = n := by simp at h; omega
      have := bv_lt n ys h1 (fun y hy => hb y (by simp [hy]))
      have hx := hb x (by simp)
      rw [bv_snoc, Nat.pow_succ]
      omega
theorem bv_top {xs : List Nat} (h : xs.length ≤ 16) (hb : ∀ x ∈ xs, x < 256) : bv xs < top := by
  have h1 := bv_lt _ xs rfl hb
  have h2 : 256 ^ xs.length ≤ 256 ^ 16 := Nat.pow_le_pow_right (by decide) h
  have h3 : (256 : Nat) ^ 16 = top := by decide
  omega
theorem lo_or (u x : Nat) (hx : x < 256) : bits .or .u64 (wLo (u * 256)) (x : Int) = wLo (u * 256 + x) := by
  have e : wLo (u * 256) = ((2 ^ 8 * (u % 72057594037927936) : Nat) : Int) := by
    have h : u * 256 % 2 ^ 64 = 2 ^ 8 * (u % 72057594037927936) := by omega
    rw [wLo_nat, h]
  rw [e, u64_or_nat _ _ (by omega) (by omega)]
  have h := Nat.two_pow_add_eq_or_of_lt (i := 8) (b := x) hx (u % 72057594037927936)
  have h2 : 2 ^ 8 * (u % 72057594037927936) + x = (u * 256 + x) % 2 ^ 64 := by omega
  rw [← h, wLo_nat, h2]
theorem hi_or (u x : Nat) (hx : x < 256) : wHi (u * 256) = wHi (u * 256 + x) := by
  have h : u * 256 / 2 ^ 64 = (u * 256 + x) / 2 ^ 64 := by omega
  rw [wHi_nat, wHi_nat, h]
theorem up8 (u x : Nat) (X Y : Int) (w : World) (h : u * 256 + x < top) (hx : x < 256) (hX : wHi (u * 256 + x) = X) (hY : wLo (u * 256) = Y) :
    Calls Try.prog 85 #[.int .u64 (wHi u), .int .u64 (wLo u), .int .u64 8] w fun e w' => e = .returned (.tuple #[.int .u64 X, .int .u64 Y]) ∧ w' = w := by
  have e : u * 2 ^ (8 : Int).toNat % top = u * 256 := Nat.mod_eq_of_lt (Nat.lt_of_le_of_lt (Nat.le_add_right _ x) h)
  have hu : u < top := Nat.lt_of_le_of_lt (by omega : u ≤ u * 256 + x) h
  exact upV u 8 X Y w hu (by decide) (by decide) (by rw [e, hi_or u x hx]; exact hX) (by rw [e]; exact hY)
structure RdM (w W : World) (n hi lo : Int) : Prop where
  bl : Below w.heap.size w W
  a : W.heap[w.heap.size]? = some (.cells #[.int .i64 0, .int .u64 0, .int .u64 0] 35 (0, 0))
  b : W.heap[w.heap.size + 1]? = some (.cells #[.int .i64 n, .int .u64 hi, .int .u64 lo] 35 (0, 0))
theorem cells3 {W : World} {s : Nat} {x y z : Value} {t : TypeId} (h : W.heap[s]? = some (.cells #[x, y, z] t (0, 0))) : W.cell? ⟨s, 0, none⟩ = some x ∧ W.cell? ⟨s, 1, none⟩ = some y ∧ W.cell? ⟨s, 2, none⟩ = some z ∧ ∀ o, W.frozen? ⟨s, o, none⟩ = false := by
  refine ⟨?_, ?_, ?_, fun o => ?_⟩
  · unfold World.cell?; simp only [h]; rfl
  · unfold World.cell?; simp only [h]; rfl
  · unfold World.cell?; simp only [h]; rfl
  · unfold World.frozen?; simp only [h]; simp
theorem RdM.start (w : World) (n : Int) : RdM w ((w.alloc (.cells #[.int .i64 0, .int .u64 0, .int .u64 0] 35)).alloc (.cells #[.int .i64 n, .int .u64 0, .int .u64 0] 35)) n 0 0 := by
  have h2 := heap_alloc_new (w.alloc (.cells #[.int .i64 0, .int .u64 0, .int .u64 0] 35)) (.cells #[.int .i64 n, .int .u64 0, .int .u64 0] 35)
  rw [World.size_alloc] at h2
  exact ⟨((Below.refl _ w).alloc (Nat.le_refl _) _).alloc (by simp) _, (Below.heap_alloc _ _ _ (by simp)).trans (heap_alloc_new w _), h2⟩
theorem RdM.set {w W : World} {n hi lo : Int} (h : RdM w W n hi lo) (x y z : Int) : RdM w (((W.setCell ⟨w.heap.size + 1, 1, none⟩ (.int .u64 x)).setCell ⟨w.heap.size + 1, 2, none⟩ (.int .u64 y)).setCell ⟨w.heap.size + 1, 2, none⟩ (.int .u64 z)) n x z := by
  refine ⟨((h.bl.setCell (by simp) _).setCell (by simp) _).setCell (by simp) _, ?_, ?_⟩
  · rw [Below.heap_setCell _ _ _ _ (by simp), Below.heap_setCell _ _ _ _ (by simp), Below.heap_setCell _ _ _ _ (by simp)]; exact h.a
  · exact heap_setCell_same (heap_setCell_same (heap_setCell_same h.b _) _) _
theorem RdM.next {w W W' : World} {n hi lo : Int} (h : RdM w W n hi lo) (hb : Below W.heap.size W W') : RdM w W' n hi lo :=
  ⟨h.bl.trans (hb.mono h.bl.size), (hb.block _ (Array.getElem?_eq_some_iff.1 h.a).1).trans h.a, (hb.block _ (Array.getElem?_eq_some_iff.1 h.b).1).trans h.b⟩
def numW (n u : Nat) : Value := .agg #[.int .i64 n, .int .u64 (wHi u), .int .u64 (wLo u)]
def zeroB : Value := .agg #[.int .i64 0, .int .u64 0, .int .u64 0]
set_option maxHeartbeats 2000000 in
theorem read_loop (n q off cap : Nat) (xs : List Nat) (w : World) (h0 : 1 ≤ n) (h1 : n ≤ 128) (hx : Bs w q off xs) (hb : ∀ x ∈ xs, x < 256) (hl : xs.length = (n + 7) / 8) (okv : Bool) (hok : okv = decide (bv xs < 2 ^ n)) :
    Calls Try.prog 62 #[.int .i64 n, .slice (some ⟨q, off, none⟩) xs.length cap] w fun e w' => (if okv then e = .returned (.tuple #[numW n (bv xs), .int .i64 0]) else e = .returned (.tuple #[zeroB, .int .i64 8])) ∧ Below w.heap.size w w' := by
  have HW : Hid (∀ W, Calls Try.prog 83 #[.int .i64 n] W fun e w' => e = .returned (.bool true) ∧ w' = W) := fun W => by
    have := widthMayBe_any n W
    rw [mayBe_yes (by omega) (by omega)] at this
    exact this
  have HC := hide (fun W => byteCount_any n W (by omega) (by omega))
  obtain ⟨N, hN⟩ : ∃ N, N = xs.length := ⟨_, rfl⟩
  have eN : ((((n : Int).toNat + 7) / 8 : Nat)) = N := by rw [Int.toNat_natCast]; omega
  rw [eN] at HC
  have hN16 : N ≤ 16 := by omega
  have hqw : ∀ i, i < N → q < w.heap.size := fun i hi => World.block_lt_of_cell? w _ (hx i (by omega))
  have HK : Hid (∀ W, Calls Try.prog 86 #[.agg #[.int .i64 n, .int .u64 (wHi (bv xs)), .int .u64 (wLo (bv xs))]] W fun e w' => e = .returned (.bool okv) ∧ Below W.heap.size W w') := fun W => by
    have := checkV n (bv xs) W (bv_top (by omega) hb)
    rw [mayBe_yes (by omega) (by omega), Int.toNat_natCast, Bool.true_and, ← hok] at this
    exact this
  have HX := hide hx; have HB := hide hb; have HL := hide hN
  obtain ⟨H, hH⟩ : ∃ H, wHi (bv xs) = H := ⟨_, rfl⟩
  obtain ⟨L, hL⟩ : ∃ L, wLo (bv xs) = L := ⟨_, rfl⟩
  unfold numW zeroB
  rw [hH, hL] at HK
  rw [hH, hL]
  have HH := hide hH; have HL2 := hide hL
  have HQ := hide hqw
  rw [← hN]
  clear eN hx hb hl hN hok hqw hH hL
  go_enter Try.func62, Try.ntmps62
  go_wp2_with fail
  refine (HW.out _).mono ?_
  rintro e w1 ⟨rfl, hw1⟩
  subst hw1
  go_wp2_with fail
  refine (HC.out _).mono ?_
  rintro e w2 ⟨rfl, hw2⟩
  subst hw2
  go_wp2
  go_loopw [23] (fun i wr => ∃ k u : Nat, k ≤ N ∧ i = .int .i64 k ∧ RdM w wr n (wHi u) (wLo u) ∧ Hid (u = bv (xs.take k))) (fun i _ => N - (intOf i).toNat)
  case atStart => exact ⟨0, 0, by omega, rfl, RdM.start w n, by exact rfl⟩
  case round =>
    obtain ⟨k, u, hk, rfl, hR, HU⟩ := hrel
    obtain ⟨b0, b1, b2, bf⟩ := cells3 hR.b
    obtain ⟨a0, a1, a2, af⟩ := cells3 hR.a
    have R := hide hR
    by_cases hlt : k < N
    · have hkx : k < xs.length := by have := HL.out; omega
      obtain ⟨x, hxk⟩ : ∃ x, xs[k] = x := ⟨_, rfl⟩
      have hx256 : x < 256 := by rw [← hxk]; exact HB.out _ (List.getElem_mem hkx)
      have hcx : wr.cell? ⟨q, off + k, none⟩ = some (.int .u8 (x : Int)) := by
        rw [hR.bl.cell (p := ⟨q, off + k, none⟩) (HQ.out k hlt), HX.out k hkx, hxk]
      have hut : u * 256 + x < top := by
        have e : u * 256 + x = bv (xs.take (k + 1)) := by rw [List.take_add_one, List.getElem?_eq_getElem hkx, Option.toList_some, bv_snoc, ← HU.out, hxk]
        rw [e]
        exact bv_top (by simp; omega) (fun y hy => HB.out y (List.mem_of_mem_take hy))
      have HN2 : Hid (u * 256 + x = bv (xs.take (k + 1))) := by
        show _ = _
        rw [List.take_add_one, List.getElem?_eq_getElem hkx, Option.toList_some, bv_snoc, ← HU.out, hxk]
      have hw8 : IntKind.u64.wrap (x : Int) = x := by rw [IntKind.wrap_u64]; omega
      obtain ⟨h3, hh3⟩ : ∃ h3, wHi (u * 256 + x) = h3 := ⟨_, rfl⟩
      obtain ⟨l2, hl2⟩ : ∃ l2, wLo (u * 256) = l2 := ⟨_, rfl⟩
      have HUP := hide (up8 u x h3 l2 wr hut hx256 hh3 hl2)
      have hor := lo_or u x hx256
      rw [hl2] at hor
      have HOR := hide hor
      have HH3 := hide hh3
      clear hR hxk hkx hut a0 a1 a2 af b0 hh3 hl2 hor
      generalize wHi u = h1 at *
      generalize wLo u = l1 at *
      go_wp2_with fail
      refine HUP.out.mono ?_
      rintro e w5 ⟨rfl, hw5⟩
      subst hw5
      go_wp2
      go_roundw
      case rel => exact ⟨k + 1, u * 256 + x, by omega, by go_num, by rw [HH3.out, ← HOR.out]; exact R.out.set _ _ _, HN2.out⟩
      case measure => simp [intOf]; omega
    · obtain rfl : k = N := by omega
      have hu : u = bv xs := by rw [HU.out, List.take_of_length_le (by have := HL.out; omega)]
      rw [hu, HH.out, HL2.out] at R
      rw [hu, HH.out] at b1
      rw [hu, HL2.out] at b2
      clear hu hR HU
      go_wp2_with fail
      refine (HK.out _).mono ?_
      rintro e w6 ⟨rfl, hb6⟩
      have R6 := hide (R.out.next hb6)
      obtain ⟨b0, b1, b2, bf⟩ := cells3 R6.out.b
      obtain ⟨a0, a1, a2, af⟩ := cells3 R6.out.a
      clear hb6 R
      cases okv
      · go_wp2
        refine bodyPost_ret (v := .tuple #[.agg #[.int .i64 0, .int .u64 0, .int .u64 0], .int .i64 8]) (by simp [results, Try.results62, go_sem, a0, a1, a2]) rfl ⟨rfl, ?_⟩
        exact ((R6.out.bl.setCell (Nat.le_refl _) _).setCell (Nat.le_refl _) _).setCell (Nat.le_refl _) _
      · go_wp2
        refine bodyPost_ret (v := .tuple #[.agg #[.int .i64 n, .int .u64 H, .int .u64 L], .int .i64 0]) (by simp [results, Try.results62, go_sem, a0, a1, a2]) rfl ⟨rfl, ?_⟩
        exact ((R6.out.bl.setCell (Nat.le_refl _) _).setCell (Nat.le_refl _) _).setCell (Nat.le_refl _) _
end Go.Proofs.Ythlfbpadakoamab
/- What bytes are read as: the requests and replies, as they are told (no program). -/
namespace Go.Proofs.Ythlfbpadakoamab
open Go.RowKit

structure BitsA where
  w : Int
  hi : Int
  lo : Int
structure MatchA where
  v : BitsA
  m : BitsA
  len : Int
structure EntryA where
  ms : List MatchA
  prio : Int
  act : ByteArray
  args : List BitsA
structure UpdA where
  kind : Int
  table : ByteArray
  entry : EntryA
  n : Int
  ports : List Int
structure ReqA where
  kind : Int
  src : ByteArray
  table : ByteArray
  n : Int
  ups : List UpdA
structure RepA where
  err : Int
  at' : Int
  ents : List EntryA
  val : BitsA
def zeroA : BitsA := ⟨0, 0, 0⟩
def noEntry : EntryA := ⟨[], 0, ByteArray.empty, []⟩
abbrev Ps (α : Type) := List Nat → Option (α × List Nat)
def byteP : Ps Nat
  | [] => none
  | x :: ys => some (x, ys)
def longP : Ps Nat
  | x :: y :: ys => some (x * 256 + y, ys)
  | _ => none
def wholeP : Ps Int
  | x0 :: x1 :: x2 :: x3 :: ys => if val4 x0 x1 x2 x3 ≤ 2147483647 then some ((val4 x0 x1 x2 x3 : Int), ys) else none
  | _ => none
def nameP : Ps ByteArray
  | [] => none
  | n :: ys => if n ≤ ys.length then some (strOf (ys.take n), ys.drop n) else none
def numP : Ps BitsA
  | [] => none
  | n :: ys => if n = 0 then some (zeroA, ys) else if n ≤ 128 ∧ (n + 7) / 8 ≤ ys.length ∧ bv (ys.take ((n + 7) / 8)) < 2 ^ n then some (⟨n, wHi (bv (ys.take ((n + 7) / 8))), wLo (bv (ys.take ((n + 7) / 8)))⟩, ys.drop ((n + 7) / 8)) else none
def matchP : Ps MatchA := fun xs => (numP xs).bind fun (v, ys) => (numP ys).bind fun (m, zs) => (wholeP zs).bind fun (l, us) => some (⟨v, m, l⟩, us)
def manyP {α : Type} (f : Ps α) : Nat → Ps (List α)
  | 0, xs => some ([], xs)
  | n + 1, xs => (manyP f n xs).bind fun (l, ys) => (f ys).bind fun (x, zs) => some (l ++ [x], zs)
def listP {α : Type} (f : Ps α) : Ps (List α) := fun xs => (byteP xs).bind fun (n, ys) => manyP f n ys
def actionP : Ps EntryA := fun xs => (nameP xs).bind fun (a, ys) => (listP numP ys).bind fun (l, zs) => some (⟨[], 0, a, l⟩, zs)
def entryP : Ps EntryA := fun xs => (listP matchP xs).bind fun (ms, ys) => (wholeP ys).bind fun (p, zs) => (actionP zs).bind fun (e, us) => some (⟨ms, p, e.act, e.args⟩, us)
def changeP : Ps UpdA := fun xs => (nameP xs).bind fun (t, ys) => (entryP ys).bind fun (e, zs) => some (⟨0, t, e, 0, []⟩, zs)
def otherP : Ps UpdA := fun xs => (nameP xs).bind fun (t, ys) => (actionP ys).bind fun (e, zs) => some (⟨0, t, e, 0, []⟩, zs)
def groupP : Ps UpdA := fun xs => (wholeP xs).bind fun (n, ys) => (listP wholeP ys).bind fun (l, zs) => some (⟨0, ByteArray.empty, noEntry, n, l⟩, zs)
def updK (k : Nat) : Ps UpdA := fun ys => if k = 1 ∨ k = 2 ∨ k = 3 then changeP ys else if k = 4 then otherP ys else if k = 5 then groupP ys else none
def updP : Ps UpdA := fun xs => (byteP xs).bind fun (k, ys) => (updK k ys).bind fun (u, zs) => some ({ u with kind := k }, zs)
def installP : Ps ReqA := fun xs => some (⟨0, strOf xs, ByteArray.empty, 0, []⟩, [])
def writeP : Ps ReqA := fun xs => (byteP xs).bind fun (n, ys) => if n ≤ 64 then (manyP updP n ys).bind fun (l, zs) => some (⟨0, ByteArray.empty, ByteArray.empty, 0, l⟩, zs) else none
def readP : Ps ReqA := fun xs => (nameP xs).bind fun (t, ys) => some (⟨0, ByteArray.empty, t, 0, []⟩, ys)
def cellsP : Ps ReqA := fun xs => (readP xs).bind fun (r, ys) => (wholeP ys).bind fun (n, zs) => some ({ r with n := n }, zs)
def reqK (k : Nat) : Ps ReqA := fun ys => if k = 1 then installP ys else if k = 2 then writeP ys else if k = 3 then readP ys else if k = 4 then cellsP ys else none
def reqP : Ps ReqA := fun xs => (byteP xs).bind fun (k, ys) => (reqK k ys).bind fun (r, zs) => some ({ r with kind := k }, zs)
def repP : Ps RepA := fun xs => (byteP xs).bind fun (e, ys) => (wholeP ys).bind fun (a, zs) => (longP zs).bind fun (n, us) => (manyP entryP n us).bind fun (l, vs) => (numP vs).bind fun (v, ts) => some (⟨e, a, l, v⟩, ts)
theorem many_stuck {α : Type} {f : Ps α} {k : Nat} {xs ys : List Nat} {l : List α} (h : manyP f k xs = some (l, ys)) (hf : f ys = none) : ∀ n, k < n → manyP f n xs = none
  | 0, hn => by omega
  | n + 1, hn => by
    by_cases e : k = n
    · subst e; simp [manyP, h, hf]
    · simp [manyP, many_stuck h hf n (by omega)]
theorem many_next {α : Type} {f : Ps α} {k : Nat} {xs ys zs : List Nat} {l : List α} {x : α} (h : manyP f k xs = some (l, ys)) (hf : f ys = some (x, zs)) : manyP f (k + 1) xs = some (l ++ [x], zs) := by
  simp [manyP, h, hf]
theorem many_length {α : Type} {f : Ps α} : ∀ (k : Nat) {xs ys : List Nat} {l : List α}, manyP f k xs = some (l, ys) → l.length = k
  | 0, xs, ys, l, h => by simp [manyP] at h; rw [h.1]; rfl
  | k + 1, xs, ys, l, h => by
    simp only [manyP, Option.bind_eq_some_iff] at h
    obtain ⟨⟨l1, ys1⟩, h1, ⟨x, zs⟩, h2, h3⟩ := h
    simp only [Option.some.injEq, Prod.mk.injEq] at h3
    rw [← h3.1, List.length_append, many_length k h1]; rfl
/- As values. -/
def BitsA.cells (b : BitsA) : List Value := [.int .i64 b.w, .int .u64 b.hi, .int .u64 b.lo]
def MatchA.cells (m : MatchA) : List Value := [.int .i64 m.v.w, .int .u64 m.v.hi, .int .u64 m.v.lo, .int .i64 m.m.w, .int .u64 m.m.hi, .int .u64 m.m.lo, .int .i64 m.len]
def BitsA.val (b : BitsA) : Value := .agg #[.int .i64 b.w, .int .u64 b.hi, .int .u64 b.lo]
def MatchA.val (m : MatchA) : Value := .agg #[.int .i64 m.v.w, .int .u64 m.v.hi, .int .u64 m.v.lo, .int .i64 m.m.w, .int .u64 m.m.hi, .int .u64 m.m.lo, .int .i64 m.len]
/- What is read of a reader: all of it, or a panic. -/
theorem Rr.base {w W : World} {p q : Nat} {xs : List Nat} (h : Rr w W p q xs) : Rr W W p q xs :=
  ⟨Fr.refl _ _, h.pq, Nat.lt_of_lt_of_le h.pl h.fr.size, Nat.lt_of_lt_of_le h.ql h.fr.size, h.cell, h.soft, h.small, h.byte⟩
theorem Rr.trans {w W W' : World} {p q : Nat} {xs ys : List Nat} (h : Rr w W p q xs) (k : Rr W W' p q ys) : Rr w W' p q ys :=
  ⟨h.fr.trans k.fr (fun _ _ e => e), h.pq, h.pl, h.ql, k.cell, k.soft, k.small, k.byte⟩
theorem Rr.drewN {w W : World} {p q : Nat} {xs : List Nat} (h : Rr w W p q xs) (n : Nat) : Rr w (W.drewN n) p q xs := ⟨h.fr.drewN n, h.pq, h.pl, h.ql, h.cell, h.soft, h.small, h.byte⟩
theorem Rr.drew {w W : World} {p q : Nat} {xs : List Nat} (h : Rr w W p q xs) : Rr w W.drew p q xs := ⟨h.fr.drew, h.pq, h.pl, h.ql, h.cell, h.soft, h.small, h.byte⟩
theorem Rr.alloc {w W : World} {p q : Nat} {xs : List Nat} (h : Rr w W p q xs) (o : Obj) : Rr w (W.alloc o) p q xs := h.next ((Below.refl _ _).alloc (Nat.le_refl _) o)
def Bn (W W' : World) : Nat → Prop := fun b => W.heap.size ≤ b ∧ b < W'.heap.size
def Reads {α : Type} (F : Nat) (pf : Ps α) (rep : World → (Nat → Prop) → Value → α → Prop) : Prop :=
  ∀ (W : World) (p q : Nat) (xs : List Nat), Rr W W p q xs → Calls Try.prog F #[.pointer (some ⟨p, 0, none⟩)] W fun e W' =>
    (∃ x ys v, pf xs = some (x, ys) ∧ e = .returned v ∧ rep W' (Bn W W') v x ∧ Rr W W' p q ys) ∨ (pf xs = none ∧ e = .panicked panW ∧ Fr (· = p) W W')
def IntR (_ : World) (_ : Nat → Prop) (v : Value) (x : Int) : Prop := v = .int .i64 x
def NatR (_ : World) (_ : Nat → Prop) (v : Value) (x : Nat) : Prop := v = .int .i64 x
def StrR (_ : World) (_ : Nat → Prop) (v : Value) (x : ByteArray) : Prop := v = .string x
def BitsR (_ : World) (_ : Nat → Prop) (v : Value) (x : BitsA) : Prop := v = x.val
def MatchR (_ : World) (_ : Nat → Prop) (v : Value) (x : MatchA) : Prop := v = x.val
theorem byte_reads : Reads 22 byteP NatR := fun W p q xs h => by
  cases xs with
  | nil => exact (byte_no h).mono (fun e W' ⟨h1, h2⟩ => .inr ⟨rfl, h1, by rw [h2]; exact h.fr⟩)
  | cons x ys => exact (byte_yes h).mono (fun e W' ⟨h1, h2⟩ => .inl ⟨x, ys, _, rfl, h1, rfl, h2⟩)
theorem whole_reads : Reads 30 wholeP IntR := fun W p q xs h => by
  by_cases h4 : ∃ x0 x1 x2 x3 ys, xs = x0 :: x1 :: x2 :: x3 :: ys ∧ val4 x0 x1 x2 x3 ≤ 2147483647
  · obtain ⟨x0, x1, x2, x3, ys, rfl, hv⟩ := h4
    exact (whole_yes h hv).mono (fun e W' ⟨h1, h2⟩ => .inl ⟨(val4 x0 x1 x2 x3 : Int), ys, _, by simp [wholeP, hv], h1, rfl, h2⟩)
  · refine (whole_no h (fun x0 x1 x2 x3 ys e => ?_)).mono (fun e W' ⟨h1, h2⟩ => .inr ⟨?_, h1, h2⟩)
    · exact Nat.lt_of_not_le (fun hv => h4 ⟨x0, x1, x2, x3, ys, e, hv⟩)
    · unfold wholeP
      split
      · rename_i x0 x1 x2 x3 ys
        rw [if_neg (fun hv => h4 ⟨x0, x1, x2, x3, ys, rfl, hv⟩)]
      · rfl
theorem name_reads : Reads 57 nameP StrR := fun W p q xs h => by
  by_cases h4 : ∃ n ys, xs = n :: ys ∧ n ≤ ys.length
  · obtain ⟨n, ys, rfl, hv⟩ := h4
    exact (name_yes h hv).mono (fun e W' ⟨h1, h2⟩ => .inl ⟨_, _, _, by simp [nameP, hv], h1, rfl, h2⟩)
  · refine (name_no h (fun n ys e => ?_)).mono (fun e W' ⟨h1, h2⟩ => .inr ⟨?_, h1, h2⟩)
    · exact Nat.lt_of_not_le (fun hv => h4 ⟨n, ys, e, hv⟩)
    · unfold nameP
      split
      · rfl
      · rename_i n ys
        rw [if_neg (fun hv => h4 ⟨n, ys, rfl, hv⟩)]
end Go.Proofs.Ythlfbpadakoamab
