/- bits.Bytes, and bytes held against bytes. -/
import Derived.Test.YtbbnjilajkllpaaGreatDoorShf
import Derived.RegionTactic
namespace Go.Proofs.YtbbnjilajkllpaaGreatDoor
open Go.RowKit

def byteAt (u N j : Nat) : Nat := u / 2 ^ (8 * (N - 1 - j)) % 256
def byteTo (u N k : Nat) : List Value := (List.range N).map (fun j => Value.int .u8 (((if j < k then byteAt u N j else 0 : Nat)) : Int))
theorem byteTo_length (u N k : Nat) : (byteTo u N k).length = N := by simp [byteTo]
theorem byteTo_set (u N k : Nat) : (byteTo u N k).set k (.int .u8 (byteAt u N k : Nat)) = byteTo u N (k + 1) := by
  refine List.ext_getElem (by simp [byteTo]) fun i h1 h2 => ?_
  rw [List.getElem_set]
  by_cases e : k = i
  · subst e; simp [byteTo]
  · simp only [if_neg e, byteTo, List.getElem_map, List.getElem_range]
    congr 2
    by_cases hi : i < k
    · rw [if_pos hi, if_pos (by omega)]
    · rw [if_neg hi, if_neg (by omega)]
theorem made8 (N : Nat) (u : Nat) : (madeCells (Value.int .u8 0).cells (N * 1)).toList = byteTo u N 0 := by
  refine List.ext_getElem (by simp [madeCells, byteTo]) fun i h1 h2 => ?_
  simp [madeCells, byteTo, Value.cells, Nat.mod_one]
theorem Tryz.info5 : (Tryz.prog.info? 5).map (fun i => (i.zero, i.size, i.bytes)) = some (some (.int .u8 0), 1, 1) := by kernel_rfl
theorem byteCount_any (n : Int) (w : World) (h0 : 1 ≤ n) (h1 : n ≤ 128) :
    Calls Tryz.prog 10 #[.int .i64 n] w fun e w' => e = .returned (.int .i64 ((((n.toNat + 7) / 8 : Nat)) : Int)) ∧ w' = w := by
  go_enter Tryz.func10, Tryz.ntmps10
  go_wp2
  go_ret
  exact ⟨ret_int (by omega), rfl⟩
theorem byte_lo (u N k : Nat) : wLo (u / 2 ^ (8 * (N - 1 - k))) % 256 = ((byteAt u N k : Nat) : Int) := by
  rw [wLo_nat]
  unfold byteAt
  generalize u / 2 ^ (8 * (N - 1 - k)) = x
  omega

def okN' (n : Int) (v : Nat) : Bool := mayBe n && decide (v < 2 ^ n.toNat)
theorem own_base {w : World} {B B' : Nat} {e : TypeId} {v : Value} {k : Nat} {xs : List Value} (h : w.ownsRow B e 1 v k xs) (hB : B' ≤ B) : w.ownsRow B' e 1 v k xs := by
  refine ⟨h.1, ?_⟩
  rcases h.2 with h0 | ⟨g, cap, cur, hv, hg, rest⟩
  · exact .inl h0
  · exact .inr ⟨g, cap, cur, hv, Nat.le_trans hB hg, rest⟩

set_option maxHeartbeats 2000000 in
theorem bytes_yes (n : Int) (u : Nat) (w : World) (hu : u < top) (b0 : 1 ≤ n) (b1 : n ≤ 128) (b2 : u < 2 ^ n.toNat) :
    Calls Tryz.prog 4 #[.agg #[.int .i64 n, .int .u64 (wHi u), .int .u64 (wLo u)]] w fun e w' => ∃ g N, N = (n.toNat + 7) / 8 ∧ e = .returned (.tuple #[.slice (some ⟨g, 0, none⟩) N N, .int .i64 0]) ∧ w'.ownsRow w.heap.size 5 1 (.slice (some ⟨g, 0, none⟩) N N) N (byteTo u N N) ∧ Below w.heap.size w w' := by
  have HC : Hid (∀ W, Calls Tryz.prog 7 #[.agg #[.int .i64 n, .int .u64 (wHi u), .int .u64 (wLo u)]] W fun e W' => e = .returned (.bool true) ∧ Below W.heap.size W W') := fun W => by
    have h := checkV n u W hu
    have e : (mayBe n && decide (u < 2 ^ n.toNat)) = true := by rw [mayBe_yes b0 b1]; simpa using b2
    rw [e] at h; exact h
  have HD := hide (fun N k X Y W h0 h1 hX hY => downV u (((8 * (N - 1 - k) : Nat)) : Int) X Y W hu h0 h1 hX hY)
  have HB := hide (fun W => byteCount_any n W b0 b1)
  obtain ⟨N, hN⟩ : ∃ N, N = (n.toNat + 7) / 8 := ⟨_, rfl⟩
  have hN16 : N ≤ 16 := by omega
  have hN1 : 1 ≤ N := by omega
  rw [← hN] at HB
  have HNN := hide hN
  clear hN b2
  obtain ⟨i0, hi0, hz0, hz1, hz2⟩ := info_parts Tryz.info5
  generalize wHi u = h1 at *
  generalize wLo u = l1 at *
  go_enter Tryz.func4, Tryz.ntmps4
  go_wp2_with fail
  refine (HC.out _).mono ?_
  rintro e w1 ⟨rfl, hb⟩
  obtain ⟨hc, hf⟩ := bcell hb
  have hz : w.heap.size < w1.heap.size := by have := hb.size; simp at this; omega
  go_wp2_with fail
  refine (HB.out _).mono ?_
  rintro e w2 ⟨rfl, hw⟩
  subst hw
  have hb' : Below (w.heap.size + 1) (w.alloc (.cells #[.int .i64 n, .int .u64 h1, .int .u64 l1] 24)) w2 := hb.mono (by simp)
  go_wp2_with (at_make; refine wpList_make_full _ rfl _ _ 25 rfl (w.heap.size + 1) 5 i0 (.int .u8 0) 1 Tryz.underlying25 hi0 hz0 hz1 .i64 .i64 _ _ N rfl rfl rfl rfl (by rw [hz2]; omega) (by unfold maxLen; omega) (by omega) ?_; intro W0 hm0 hg0)
  rw [made8 N u] at hm0
  have HM0 := hide hm0
  have HB0 := hide (hb'.grown hg0 (by omega) (fun k e => by cases e))
  have hgg : w.heap.size < w2.heap.size := hz
  clear hm0 hg0 hb hb' hc hf hz
  go_wp2
  go_loopw [17] (fun i wr => ∃ k : Nat, k ≤ N ∧ i = .int .i64 k ∧ wr.ownsRow (w.heap.size + 1) 5 1 (.slice (some ⟨w2.heap.size, 0, none⟩) N N) N (byteTo u N k) ∧ Below (w.heap.size + 1) (w.alloc (.cells #[.int .i64 n, .int .u64 h1, .int .u64 l1] 24)) wr) (fun i _ => N - (intOf i).toNat)
  case atStart => exact ⟨0, Nat.zero_le _, rfl, HM0.out, HB0.out⟩
  case round =>
    obtain ⟨k, hk, rfl, hown, hnx⟩ := hrel
    have HO := hide hown; have HN := hide hnx
    by_cases hlt : k < N
    · have c0 : wr.cell? ⟨w.heap.size, 1, none⟩ = some (.int .u64 h1) := by rw [hnx.cell (by simp)]; simp [go_sem]
      have c1 : wr.cell? ⟨w.heap.size, 2, none⟩ = some (.int .u64 l1) := by rw [hnx.cell (by simp)]; simp [go_sem]
      have hcell : ∃ x, wr.cell? ⟨w2.heap.size, k, none⟩ = some x := by
        have := hown.cellAt k (by omega)
        rw [this, List.getElem?_eq_getElem (by rw [byteTo_length]; exact hlt)]; exact ⟨_, rfl⟩
      obtain ⟨x, hcx⟩ := hcell
      have hfx := hown.frozenAt k
      have ekk : ((8 * (N - 1 - k) : Nat) : Int) = ((N : Int) - 1 - (k : Int)) * 8 := by omega
      have HDk := hide (fun W => HD.out N k _ _ W (by omega) (by omega) rfl rfl)
      rw [ekk] at HDk
      have HY := hide (byte_lo u N k)
      have eT : (((N : Int) - 1 - (k : Int)) * 8).toNat = 8 * (N - 1 - k) := by omega
      rw [eT] at HDk
      clear ekk eT hown hnx
      generalize wHi (u / 2 ^ (8 * (N - 1 - k))) = X at *
      generalize wLo (u / 2 ^ (8 * (N - 1 - k))) = Y at *
      have hw1 : IntKind.u64.wrap ((N : Int) - 1 - (k : Int)) = (N : Int) - 1 - (k : Int) := by rw [IntKind.wrap_u64]; omega
      have hw2 : IntKind.u64.wrap (((N : Int) - 1 - (k : Int)) * 8) = ((N : Int) - 1 - (k : Int)) * 8 := by rw [IntKind.wrap_u64]; omega
      go_wp2_with fail
      refine (HDk.out _).mono ?_
      rintro e w3 ⟨rfl, hw⟩
      subst hw
      go_wp2
      go_roundw
      case rel => exact ⟨k + 1, by omega, by go_num, by rw [HY.out]; have h := (HO.out.stored k (.int .u8 (byteAt u N k : Nat))).1; rw [byteTo_set] at h; exact h, HN.out.setCell (by show w.heap.size + 1 ≤ w2.heap.size; omega) _⟩
      case measure => simp [intOf]; omega
    · have hkk : Hid (k = N) := by unfold Hid; omega
      clear hown hnx
      have hlt' : decide ((k : Int) < (N : Int)) = false := by simpa using hlt
      go_wp2
      go_ret2
      exact ⟨w2.heap.size, N, HNN.out, rfl, by have h := HO.out; rw [hkk.out] at h; exact own_base h (by omega), ((Below.refl _ _).alloc (Nat.le_refl _) _).trans (HN.out.mono (by omega))⟩
theorem bytes_no (n : Int) (u : Nat) (w : World) (hu : u < top) (h : okN' n u = false) :
    Calls Tryz.prog 4 #[.agg #[.int .i64 n, .int .u64 (wHi u), .int .u64 (wLo u)]] w fun e w' => e = .returned (.tuple #[.slice none 0 0, .int .i64 1]) ∧ Below w.heap.size w w' := by
  have HC : Hid (∀ W, Calls Tryz.prog 7 #[.agg #[.int .i64 n, .int .u64 (wHi u), .int .u64 (wLo u)]] W fun e W' => e = .returned (.bool false) ∧ Below W.heap.size W W') := fun W => by
    have h2 := checkV n u W hu
    rw [show (mayBe n && decide (u < 2 ^ n.toNat)) = false from h] at h2; exact h2
  clear h
  generalize wHi u = h1 at *
  generalize wLo u = l1 at *
  go_enter Tryz.func4, Tryz.ntmps4
  go_wp2_with fail
  refine (HC.out _).mono ?_
  rintro e w1 ⟨rfl, hb⟩
  go_wp2
  go_ret2
  exact ⟨rfl, ((Below.refl _ _).alloc (Nat.le_refl _) _).trans (hb.mono (by simp))⟩

/- Bytes that can be read. -/
def Row8 (w : World) (v : Value) (l : List Nat) : Prop := ∃ b off cap, v = .slice (some ⟨b, off, none⟩) l.length cap ∧ ∀ i (h : i < l.length), w.cell? ⟨b, off + i, none⟩ = some (.int .u8 (l[i] : Nat))
theorem same_yes (l : List Nat) (hl : l.length ≤ 1000) (va vb : Value) (w : World) (ha : Row8 w va l) (hb : Row8 w vb l) :
    Calls Tryz.prog 16 #[va, vb] w fun e w' => e = .returned (.bool true) ∧ Below w.heap.size w w' := by
  obtain ⟨p, o1, c1, rfl, ha⟩ := ha
  obtain ⟨q, o2, c2, rfl, hb⟩ := hb
  go_enter Tryz.func16, Tryz.ntmps16
  go_wp2
  go_loopw [5] (fun i wr => ∃ k : Nat, k ≤ l.length ∧ i = .int .i64 k ∧ Below w.heap.size w wr) (fun i _ => l.length - (intOf i).toNat)
  case atStart => exact ⟨0, Nat.zero_le _, rfl, Below.refl _ _⟩
  case round =>
    obtain ⟨k, hk, rfl, hnx⟩ := hrel
    have HN := hide hnx
    by_cases hlt : k < l.length
    · have hca : wr.cell? ⟨p, o1 + k, none⟩ = some (.int .u8 (l[k] : Nat)) := by
        rw [hnx.cell (World.block_lt_of_cell? w _ (ha k hlt))]; exact ha k hlt
      have hcb : wr.cell? ⟨q, o2 + k, none⟩ = some (.int .u8 (l[k] : Nat)) := by
        rw [hnx.cell (World.block_lt_of_cell? w _ (hb k hlt))]; exact hb k hlt
      have hlI : (k : Int) < (l.length : Int) := by omega
      clear ha hb hnx
      generalize l[k] = x at *
      go_wp2
      go_region
      all_goals
        go_wp2
        go_roundw
        case rel => exact ⟨k + 1, by omega, by go_num, HN.out.drew⟩
        case measure => simp [intOf]; omega
    · clear ha hb hnx
      go_wp2
      go_ret
      exact ⟨rfl, HN.out⟩
end Go.Proofs.YtbbnjilajkllpaaGreatDoor
