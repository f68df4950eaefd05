/- lex.Words, whatever it is given. -/
import Derived.Test.YtfanhdjebmdniaaGreatDoorLL
namespace Go.Proofs.YtfanhdjebmdniaaGreatDoor
open Go.RowKit

theorem wcl_one (x : Wd × Nat) : ∀ u ∈ wcl x, u.oneCell' = true := by
  intro u hu
  simp [wcl] at hu
  rcases hu with rfl | rfl | rfl | rfl | rfl | rfl <;> rfl
theorem wdA_c10 (r : List UInt8) : c10 (wdA r).2 = c10 r := by
  have h1 := dropW_c10 isW r
  have h2 : c10 (r.takeWhile isW) = 0 := isW_10
  unfold wdA
  cases hr : r.takeWhile isW with
  | nil =>
    simp only [wd1]
    have hp := sgn_pre (r.dropWhile isW)
    have hc := sgn_c10 (r.dropWhile isW)
    have e := congrArg c10 (List.take_append_drop (sgn (r.dropWhile isW)).length (r.dropWhile isW))
    rw [c10_app, hp.1, hc] at e
    omega
  | cons c l =>
    unfold wd1
    simp only
    split
    · split
      · show c10 (r.dropWhile isW) = _; omega
      · show c10 (r.dropWhile isW) = _; omega
    · show c10 (r.dropWhile isW) = _; omega
def WordsPost (s : List UInt8) (w : World) (e : Ending) (w' : World) : Prop := Below w.heap.size w w' ∧
  ((65536 < s.length ∧ e = .returned (.tuple #[.slice none 0 0, .int .i64 0, .int .i64 3])) ∨
   (s.length ≤ 65536 ∧ ((∃ k : Nat, toks s = .error k ∧ e = .returned (.tuple #[.slice none 0 0, .int .i64 (k : Int), .int .i64 4])) ∨
     (∃ xs v, toks s = .ok xs ∧ xs.length ≤ 65536 ∧ OwnW w' w.heap.size v xs ∧ e = .returned (.tuple #[v, .int .i64 0, .int .i64 0])))))
set_option maxHeartbeats 4000000 in
set_option maxRecDepth 100000 in
theorem words_any (s : List UInt8) (w : World) (hLs : Ls w) (hmx : s.length ≤ 9223372036854775807) :
    Calls Tryz.prog 7 #[.string (txt s)] w fun e w' => WordsPost s w e w' := by
  unfold WordsPost
  have hsz := txt_size s
  by_cases hbig : 65536 < s.length
  · have hbI : (65536 : Int) < ((txt s).size : Int) := by omega
    generalize txt s = T at *
    have HS := hide hbig
    clear hbig hsz hLs
    go_enter Tryz.func7, Tryz.ntmps7
    go_wp2
    refine bodyPost_ret (v := .tuple #[.slice none 0 0, .int .i64 0, .int .i64 3]) (by simp [results, Tryz.results7, go_sem]) rfl ⟨Below.refl _ _, .inl ⟨HS.out, rfl⟩⟩
  · have hbI : ¬ ((65536 : Int) < ((txt s).size : Int)) := by omega
    have hle : s.length ≤ 65536 := by omega
    have HLE := hide hle
    have HLs := hide hLs
    have hc := c10_le s
    have HT0 : Hid (Tx (w.alloc (.cells #[.string (txt s), .int .i64 0] 77)) w.heap.size s 0) := heap_alloc_new w _
    have HP : Hid (∀ r n W, Tx W w.heap.size r n → r.length ≤ 65536 → n + c10 r ≤ 65536 → _) := fun r n W h h1 h2 => passIdle_any w.heap.size n r W h (by omega) (by omega)
    have HWd : Hid (∀ r n W, Below w.heap.size w W → Tx W w.heap.size r n → r.length ≤ 65536 → n ≤ 65536 → _) := fun r n W h0 h h1 h2 => word_any w w.heap.size n r W hLs h0 (Nat.le_refl _) h (by omega) (by omega)
    have HC : Hid (c10 s ≤ 65536) := by unfold Hid; omega
    obtain ⟨i0, hi0, hz0, hz1, hz2⟩ := info_parts infoW
    generalize hTT : txt s = T at *
    clear hTT hbig hsz hLs hle hc hmx
    go_enter Tryz.func7, Tryz.ntmps7
    go_wp2_with fail
    refine (HP.out s 0 _ HT0.out HLE.out (by have := HC.out; omega)).mono ?_
    rintro e w1 ⟨rfl, ⟨n1, ht1, hn1⟩, hf1⟩
    have HI : Hid (Tx w1 w.heap.size (skip s) n1 ∧ n1 + c10 (skip s) = 0 + c10 s ∧ Below w.heap.size w w1) := ⟨ht1, hn1, frB ((Below.refl _ _).alloc (Nat.le_refl _) _) hf1 (Nat.le_refl _)⟩
    clear ht1 hn1 hf1
    go_wp2
    go_loopg [5] (s.length + 1) (fun g v wr => ∃ (r : List UInt8) (n : Nat) (acc : List (Wd × Nat)), r.length < g ∧ Hid (r.length + acc.length ≤ 65536 ∧ n + c10 r ≤ 65536 ∧ Tx wr w.heap.size r n ∧ OwnW wr (w.heap.size + 1) v acc ∧ Below w.heap.size w wr ∧ toks s = LR.app acc (tk r n)))
    case atStart =>
      obtain ⟨h1, h2, h3⟩ := HI.out
      have hl := skip_le s
      refine ⟨skip s, n1, [], by omega, by have := HLE.out; simp; omega, by have := HC.out; omega, h1, OwnW.nil _ _, h3, ?_⟩
      rw [LR.app_nil]
      unfold toks
      congr 1; omega
    case round =>
      obtain ⟨r, n, acc, hg, HR⟩ := hrel
      obtain ⟨t0, t1, _, _⟩ := HR.out.2.2.1.cells
      by_cases hre : r = []
      · have hem : (txt r).toList.isEmpty = true := by rw [hre, Lib.toList_data, txt_data]; rfl
        have HE : Hid (toks s = .ok acc ∧ acc.length ≤ 65536 ∧ Below w.heap.size w wr) := by
          obtain ⟨a1, a2, a3, a4, a5, a6⟩ := HR.out
          refine ⟨?_, by omega, a5⟩
          rw [a6, hre, tk_nil]; simp [LR.app]
        have HO := hide (HR.out.2.2.2.1.lower (Nat.le_succ _))
        clear HR hre
        generalize txt r = TR at *
        go_wp2
        refine bodyPost_ret (v := .tuple #[u5, .int .i64 0, .int .i64 0]) (by simp [results, Tryz.results7, go_sem]) rfl ⟨HE.out.2.2, .inr ⟨HLE.out, .inr ⟨acc, u5, HE.out.1, HE.out.2.1, HO.out, rfl⟩⟩⟩
      · have hem : (txt r).toList.isEmpty = false := by
          rw [Lib.toList_data, txt_data]
          cases r with
          | nil => exact absurd rfl hre
          | cons _ _ => rfl
        obtain ⟨a1, a2, a3, a4, a5, a6⟩ := HR.out
        have HW1 := hide (HWd.out r n wr a5 a3 (by omega) (by omega))
        have HTK := hide a6
        have HOW := hide a4
        have HBW := hide a5
        have HA1 := hide a1
        have HA2 := hide a2
        have HRE := hide hre
        clear HR a1 a2 a3 a4 a5 a6 hre
        generalize txt r = TR at *
        go_wp2_with fail
        refine HW1.out.mono ?_
        rintro e w2 ⟨ok, a, b, c, d, S, hwr, rfl, ht2, hf2⟩
        have HT2 := hide ht2
        have HB2 := hide (frB HBW.out hf2 (Nat.le_refl _))
        have HO2 := hide (HOW.out.fr hf2 (Nat.lt_succ_self _))
        have hlt2 : w.heap.size < w2.heap.size := ht2.lt
        obtain ⟨z0, z1, _, _⟩ := ht2.cells
        rcases hwr with ⟨rfl, x, ho, rfl, rfl, rfl, rfl, rfl⟩ | ⟨rfl, ho⟩
        · have hwd : wdA r = (some x, (wdA r).2) := by rw [← ho]
          have HN : Hid (toks s = LR.app (acc ++ [(x, n)]) (tk (skip (wdA r).2) (n + c10 (wdA r).2 - c10 (skip (wdA r).2)))) := by
            unfold Hid
            rw [HTK.out, tk_some HRE.out hwd, LR.app_app]
          have hless := wdA_less hwd
          have hcw := wdA_c10 r
          have HPI := hide (fun W h => HP.out (wdA r).2 n W h (by have := HA1.out; omega) (by have := HA2.out; omega))
          have hsk := skip_le (wdA r).2
          have HLL : Hid ((skip (wdA r).2).length < r.length ∧ (skip (wdA r).2).length + (acc ++ [(x, n)]).length ≤ 65536) := by
            refine ⟨by omega, ?_⟩
            have := HA1.out
            rw [List.length_append, List.length_singleton]; omega
          have HA2' : Hid (n + c10 (wdA r).2 ≤ 65536) := by unfold Hid; have := HA2.out; omega
          have hgl : r.length < gk := hg
          clear ho hwd hless hcw hsk ht2 hf2 HW1 HTK
          generalize (wdA r).2 = R2 at *
          unfold wAgg
          go_wp2_with (first
            | (at_builtin; refine wpList_append_own_at _ rfl _ _ 22 rfl (w.heap.size + 1) 68 i0 (.agg z6) 6 56 Tryz.underlying22 hi0 hz0 hz1 hz2 rfl (by decide) _ acc.length (wcs acc) rfl ((HO2.out.alloc _).alloc _) ⟨w2.heap.size + 1, 0, none⟩ 1 1 (wcl (x, n)) rfl rfl (by intro j u hj; have := cells_new6 (w2.alloc (.cells #[.int .u8 (x.k : Int), .string (txt x.s), .int .i64 (x.w : Int), .int .u64 (wHi x.v), .int .u64 (wLo x.v), .int .i64 (n : Int)] 68)) (wcl (x, n)) 68 j u hj; rw [World.size_alloc] at this; exact this) (wcl_one _) (by unfold maxLen; have := HA1.out; omega) (by have := HA1.out; omega) (by simp; omega) ?_
               intro v7 w7 O7 G7 _ K7
               have O8 : Hid (OwnW w7 (w.heap.size + 1) v7 (acc ++ [(x, n)])) := by unfold Hid OwnW; rw [List.length_append, List.length_singleton, wcs_snoc]; exact O7
               have hfr := Fr.grown (E := fun b => w.heap.size + 1 ≤ b) G7 (fun r er => (HO2.out.block er).1)
               have T8 : Hid (Tx w7 w.heap.size R2 n) := (hfr.block w.heap.size (by simp; omega) (by omega)).trans ((HT2.out.alloc _).alloc _)
               have B8 : Hid (Below w.heap.size w w7) := ((HB2.out.alloc (by omega) _).alloc (by simp; omega) _).trans (hfr.below (fun b e => by omega) (by simp; omega))
               clear O7 G7 K7 hfr))
          refine (HPI.out _ T8.out).mono ?_
          rintro e w8 ⟨rfl, ⟨n8, ht8, hn8⟩, hf8⟩
          have H8 : Hid (Tx w8 w.heap.size (skip R2) n8 ∧ n8 + c10 (skip R2) = n + c10 R2 ∧ OwnW w8 (w.heap.size + 1) v7 (acc ++ [(x, n)]) ∧ Below w.heap.size w w8) := ⟨ht8, hn8, O8.out.fr hf8 (Nat.lt_succ_self _), frB B8.out hf8 (Nat.le_refl _)⟩
          clear ht8 hn8 hf8
          go_wp2
          go_roundg (r.length)
          case measure => omega
          case rel =>
            obtain ⟨b1, b2, b3, b4⟩ := H8.out
            refine ⟨skip R2, n8, acc ++ [(x, n)], HLL.out.1, HLL.out.2, by have := HA2'.out; omega, b1, b3, b4, ?_⟩
            rw [HN.out]
            congr 2; omega
        · have hwd : wdA r = (none, (wdA r).2) := by rw [← ho]
          have HN : Hid (toks s = .error n) := by unfold Hid; rw [HTK.out, tk_none HRE.out hwd]; rfl
          clear ho hwd ht2 hf2 HW1 HTK
          generalize (wdA r).2 = R2 at *
          unfold wAgg
          go_wp2
          go_region
          go_wp2
          refine bodyPost_ret (v := .tuple #[.slice none 0 0, .int .i64 (n : Int), .int .i64 4]) (by simp [results, Tryz.results7, go_sem]) rfl ⟨?_, .inr ⟨HLE.out, .inl ⟨n, HN.out, rfl⟩⟩⟩
          first | exact (HB2.out.alloc (by omega) _).drew | exact HB2.out.alloc (by omega) _
end Go.Proofs.YtfanhdjebmdniaaGreatDoor
