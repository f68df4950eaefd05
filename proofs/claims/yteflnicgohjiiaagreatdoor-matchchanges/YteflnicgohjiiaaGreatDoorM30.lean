/- Pieces of the proof: BgLe, USh, BgW, BgCe. -/
import Derived.Test.YteflnicgohjiiaaGreatDoorM29
import Derived.Test.YteflnicgohjiiaaGreatDoorM6
import Derived.Shelf.Strconv.Itoa0
import Derived.Shelf.Strconv.Itoa1
import Derived.Shelf.LaysM
import Derived.Shelf.Strconv.Itoa2
import Derived.Shelf.Strconv.Itoa3
import Derived.Test.YteflnicgohjiiaaGreatDoorProg
import Derived.Test.YteflnicgohjiiaaGreatDoorM2
import Derived.RegionTactic
import Derived.Test.YteflnicgohjiiaaGreatDoorM28
/- lookEntry of a Book. -/
namespace Go.Proofs.YteflnicgohjiiaaGreatDoor
open Go.RowKit

set_option maxRecDepth 100000 in
set_option maxHeartbeats 4000000 in
theorem lookEntry_any {S : Nat → ByteArray} {w0 W w : World} {B g : Nat} {vb : Value} {hs ks : List Hc} (HIs : IsEntry S B w0) (hB : B ≤ w0.heap.size) (hbel : Below B w0 w) (h : GrEntry S W w B g vb hs ks ks.length) (hn : ks.length ≤ 1000000) :
    Calls Tryz.prog 118 #[.pointer (some ⟨g, 0, none⟩)] w fun e w' => e = .returned (.bool true) ∧ Below w.heap.size w w' := by
  have HIS := hide HIs
  have HBE := hide hbel
  have HBB := hide hB
  have H0 := hide h
  obtain ⟨av, nv, cv, hv⟩ : ∃ a n' c, vb = .slice a n' c := by
    rcases h.bk.row.2 with ⟨e, _⟩ | ⟨r, cap, cur, e, _⟩ <;> exact ⟨_, _, _, e⟩
  have hnv : nv = ks.length := by
    rcases h.bk.row.2 with ⟨e, e2⟩ | ⟨r, cap, cur, e, _⟩
    · rw [hv] at e; cases e; exact e2.symm
    · rw [hv] at e; cases e; rfl
  subst hv hnv
  clear h HIs hB hbel
  generalize hN : ks.length = N at *
  have HN := hide hN
  clear hN
  go_enter Tryz.func118, Tryz.ntmps118
  go_wp2
  go_loopg [3] N (fun gk i wr => ∃ k : Nat, k + gk = N ∧ i = .int .i64 k ∧ Below w.heap.size w wr)
  case atStart => exact ⟨0, by omega, rfl, Below.refl _ _⟩
  case round =>
    obtain ⟨k, hk, rfl, hbl⟩ := hrel
    have HKG := hide hk
    have G1 := hide (H0.out.next (mkEntry_len S) hbl)
    have B1 := hide hbl
    have BW : Hid (Below B w0 wr) := HBE.out.trans (hbl.mono (Nat.le_trans HBB.out HBE.out.size))
    have c2 := G1.out.bk.co
    clear hbl H0
    by_cases hlt : k < N
    · have hlt' : k < ks.length := by have := HN.out; omega
      obtain ⟨r, cap, hv, hr, _, hcap, r0, r1, r2, rs⟩ := G1.out.bk.at hlt'
      injection hv with hv1 hv2 hv3
      clear hv2
      subst hv1 hv3
      have hkI : (k : Int) < (N : Int) := by omega
      have dk : decide (k < N) = true := by simp; omega
      obtain ⟨hx1, hx2, _⟩ := G1.out.lim _ (List.getElem_mem hlt')
      have hb1 : Below wr.heap.size wr (wr.alloc (.cells #[ks[k].v, ks[k].vl, .int .i64 ks[k].m] 121)) := (Below.refl _ _).alloc (Nat.le_refl _) _
      have hdn := (G1.out.next (mkEntry_len S) hb1).dn k hlt' (by omega)
      have B2 := hide (B1.out.trans (hb1.mono B1.out.size))
      have BV : Hid (Below B w0 (wr.alloc (.cells #[ks[k].v, ks[k].vl, .int .i64 ks[k].m] 121))) := BW.out.trans (hb1.mono (Nat.le_trans HBB.out BW.out.size))
      have HM := hide (HIS.out ks[k].m hx2)
      obtain ⟨d1, d2, _, _⟩ := hdn
      have R1 := hide (owR_rdM d1)
      have R2 := hide d2
      obtain ⟨e0, e1, e2⟩ := boxC wr ks[k].v ks[k].vl (.int .i64 ks[k].m) 121
      clear hb1 d1 d2
      generalize hxk : ks[k] = x at *
      obtain ⟨v, vl, m, L⟩ := x
      simp only at *
      obtain ⟨a2, c2', hv2, hq2⟩ := R1.out.four
      obtain ⟨a1, c1, hv1, hq1⟩ := R2.out.four
      subst hv1 hv2
      have HQ1 := hide hq1
      have HQ2 := hide hq2
      generalize hW1 : wr.alloc (.cells #[.slice a1 L c1, .slice a2 (L + 40) c2', .int .i64 m] 121) = W1 at *
      have HW1 := hide hW1
      have hadd : IntKind.i64.wrap ((L : Int) + 40) = ((L + 40 : Nat) : Int) := by rw [IntKind.wrap_i64]; omega
      have hcz : wr.heap.size < W1.heap.size := by rw [← HW1.out]; simp
      have HZ : Hid (B ≤ W1.heap.size) := Nat.le_trans HBB.out BV.out.size
      clear hW1 hxk hq1 hq2 R1 R2
      rw [Nat.mul_comm] at r0 r1 r2
      obtain ⟨go, hgo⟩ : ∃ go, go = gk := ⟨_, rfl⟩
      subst hgo
      clear hk
      go_wp2
      rw [HW1.out]
      clear HW1 G1 HN
      generalize wr.heap.size = c at *
      go_loopg [5] (L + 40) (fun gk j wi => ∃ q : Nat, q + gk = L + 40 ∧ j = .int .i64 q ∧ Below W1.heap.size W1 wi)
      case atStart => exact ⟨0, by omega, rfl, Below.refl _ _⟩
      case round =>
        obtain ⟨q, hq, rfl, hb3⟩ := hrel
        have HQ := hide hq
        have B3 := hide hb3
        have f0 := (hb3.cell (p := ⟨c, 0, none⟩) hcz).trans e0
        have f1 := (hb3.cell (p := ⟨c, 1, none⟩) hcz).trans e1
        have f2 := (hb3.cell (p := ⟨c, 2, none⟩) hcz).trans e2
        by_cases hqt : q < L + 40
        · obtain ⟨p2, rfl, s0, s1, s2, s3⟩ := HQ2.out q hqt
          have dq : decide (q < L + 40) = true := by simp; omega
          have hqI : (q : Int) < ((L + 40 : Nat) : Int) := by omega
          obtain ⟨X, f, hX, hS, hcov⟩ := class_of (fun w' => Below W1.heap.size W1 w') wr.drew B3.out.drew
          have f0' := fun x => ((hS x).cell (p := ⟨c, 0, none⟩) hcz).trans e0
          have f1' := fun x => ((hS x).cell (p := ⟨c, 1, none⟩) hcz).trans e1
          have f2' := fun x => ((hS x).cell (p := ⟨c, 2, none⟩) hcz).trans e2
          have hlt2 := World.block_lt_of_cell? W1 _ s0
          have t0 := fun x => ((hS x).cell (p := ⟨p2, q * 4, none⟩) hlt2).trans s0
          have t1 := fun x => ((hS x).cell (p := ⟨p2, q * 4 + 1, none⟩) hlt2).trans s1
          have t2 := fun x => ((hS x).cell (p := ⟨p2, q * 4 + 2, none⟩) hlt2).trans s2
          have t3 := fun x => ((hS x).cell (p := ⟨p2, q * 4 + 3, none⟩) hlt2).trans s3
          have HC0 : Hid (∃ x, wr.drew = f x) := hcov _ B3.out.drew
          have HSB : Hid (∀ x, Below B w0 (f x)) := fun x => BV.out.trans ((hS x).mono HZ.out)
          have HNX : Hid (∀ x w', Below (f x).heap.size (f x) w' → ∃ y, w' = f y) := fun x w' hb => hcov w' ((hS x).trans (hb.mono (hS x).size))
          have HSS := hide hS
          clear hcov hS s0 s1 s2 s3 hlt2
          by_cases hql : q < L
          · obtain ⟨p1, rfl, s0, s1, s2, s3⟩ := HQ1.out q hql
            have hlt1 := World.block_lt_of_cell? W1 _ s0
            have t6 := fun x => ((HSS.out x).cell (p := ⟨p1, q * 4, none⟩) hlt1).trans s0
            have t7 := fun x => ((HSS.out x).cell (p := ⟨p1, q * 4 + 1, none⟩) hlt1).trans s1
            have t8 := fun x => ((HSS.out x).cell (p := ⟨p1, q * 4 + 2, none⟩) hlt1).trans s2
            have t9 := fun x => ((HSS.out x).cell (p := ⟨p1, q * 4 + 3, none⟩) hlt1).trans s3
            have dq1 : decide (q < L) = true := by simp; omega
            have hqI1 : (q : Int) < (L : Int) := by omega
            clear s0 s1 s2 s3 hlt1 hb3 e0 e1 e2 r0 r1 r2 c2 rs hq HQ1 HQ2
            go_wp2
            refine wp_region_class f (by kernel_rfl) (by kernel_rfl) HC0.out ?_
            repeat (first
              | go_big_quiet_skip
              | (go_big_quiet_want; go_big_quiet_op; first
                  | go_big_quiet_on
                  | (apply Exists.intro
                     refine ⟨fun _ => ?_, ?_⟩
                     · (go_at_call 198; refine (HM.out _ (HSB.out _)).mono ?_; rintro e' wn ⟨rfl, hb⟩; exact ⟨rfl, HNX.out _ _ hb⟩)
                     go_big_quiet_on)))
            refine wpQuiet_nil ?_
            rintro _ ⟨x, rfl⟩
            go_wp2
            go_roundg (gk - 1)
            case measure => have := HQ.out; omega
            case rel => exact ⟨q + 1, by have := HQ.out; omega, by go_num, HSS.out x⟩
          · have dq1 : decide (q < L) = false := by simp; omega
            clear hb3 e0 e1 e2 r0 r1 r2 c2 rs hq HQ1 HQ2
            go_wp2
            refine wp_region_class f (by kernel_rfl) (by kernel_rfl) HC0.out ?_
            repeat (first
              | go_big_quiet_skip
              | (go_big_quiet_want; go_big_quiet_op; first
                  | go_big_quiet_on
                  | (apply Exists.intro
                     refine ⟨fun _ => ?_, ?_⟩
                     · (go_at_call 198; refine (HM.out _ (HSB.out _)).mono ?_; rintro e' wn ⟨rfl, hb⟩; exact ⟨rfl, HNX.out _ _ hb⟩)
                     go_big_quiet_on)))
            refine wpQuiet_nil ?_
            rintro _ ⟨x, rfl⟩
            go_wp2
            go_roundg (gk - 1)
            case measure => have := HQ.out; omega
            case rel => exact ⟨q + 1, by have := HQ.out; omega, by go_num, HSS.out x⟩
        · have dq : decide (q < L + 40) = false := by simp; omega
          have B4 := hide (B2.out.trans (B3.out.mono B2.out.size))
          clear hb3 e0 e1 e2 r0 r1 r2 c2 rs hq HQ1 HQ2
          go_wp2
          go_roundg (go - 1)
          case measure => have := HKG.out; omega
          case rel => exact ⟨k + 1, by have := HKG.out; omega, by go_num, B4.out⟩
    · have dk : decide (k < N) = false := by simp; omega
      clear G1 HN hk
      go_wp2
      go_ret
      exact ⟨rfl, B1.out⟩
end Go.Proofs.YteflnicgohjiiaaGreatDoor
/- Contracts of the library's functions, at this program. -/
namespace Go.Proofs
open Go.Shelf
def Tryz.laysM171_ren : Go.Shelf.Ren := ⟨fun | 171 => 249 | 243 => 252 | 246 => 254 | 283 => 255 | 284 => 256 | 285 => 257 | 286 => 258 | 129 => 260 | 317 => 259 | 318 => 261 | 319 => 262 | 320 => 263 | 337 => 264 | 338 => 265 | n => n, fun | 3 => 3 | 9 => 9 | 2 => 2 | 4 => 4 | 171 => 345 | 0 => 0 | 53 => 83 | 37 => 125 | 5 => 5 | 173 => 348 | 212 => 351 | 51 => 352 | 20 => 20 | 213 => 353 | 46 => 354 | 232 => 357 | 233 => 358 | n => n, fun | 17 => 0 | 18 => 1 | 19 => 2 | n => n⟩
theorem Tryz.laysM171 : Go.Proofs.LaysM.n171 Tryz.prog Tryz.laysM171_ren := {
  mixed := by kernel_rfl
  f129 := Tryz.func260.trans (congrArg some (by kernel_rfl))
  f171 := Tryz.func249.trans (congrArg some (by kernel_rfl))
  f243 := Tryz.func252.trans (congrArg some (by kernel_rfl))
  f246 := Tryz.func254.trans (congrArg some (by kernel_rfl))
  f283 := Tryz.func255.trans (congrArg some (by kernel_rfl))
  f284 := Tryz.func256.trans (congrArg some (by kernel_rfl))
  f285 := Tryz.func257.trans (congrArg some (by kernel_rfl))
  f286 := Tryz.func258.trans (congrArg some (by kernel_rfl))
  f317 := Tryz.func259.trans (congrArg some (by kernel_rfl))
  f318 := Tryz.func261.trans (congrArg some (by kernel_rfl))
  f319 := Tryz.func262.trans (congrArg some (by kernel_rfl))
  f320 := Tryz.func263.trans (congrArg some (by kernel_rfl))
  f337 := Tryz.func264.trans (congrArg some (by kernel_rfl))
  f338 := Tryz.func265.trans (congrArg some (by kernel_rfl))
  t0 := Tryz.underlying0
  a0 := Tryz.isAgg0
  z0 := Tryz.sizeOf0
  v0 := Tryz.zeroValue0
  t2 := Tryz.underlying2
  a2 := Tryz.isAgg2
  z2 := Tryz.sizeOf2
  v2 := Tryz.zeroValue2
  t3 := Tryz.underlying3
  a3 := Tryz.isAgg3
  z3 := Tryz.sizeOf3
  v3 := Tryz.zeroValue3
  t4 := Tryz.underlying4
  a4 := Tryz.isAgg4
  z4 := Tryz.sizeOf4
  v4 := Tryz.zeroValue4
  t5 := Tryz.underlying5
  a5 := Tryz.isAgg5
  z5 := Tryz.sizeOf5
  v5 := Tryz.zeroValue5
  t9 := Tryz.underlying9
  a9 := Tryz.isAgg9
  z9 := Tryz.sizeOf9
  v9 := Tryz.zeroValue9
  t20 := Tryz.underlying20
  a20 := Tryz.isAgg20
  z20 := Tryz.sizeOf20
  v20 := Tryz.zeroValue20
  t37 := Tryz.underlying125
  a37 := Tryz.isAgg125
  z37 := Tryz.sizeOf125
  v37 := Tryz.zeroValue125
  t46 := Tryz.underlying354
  a46 := Tryz.isAgg354
  z46 := Tryz.sizeOf354
  v46 := Tryz.zeroValue354
  t51 := Tryz.underlying352
  a51 := Tryz.isAgg352
  z51 := Tryz.sizeOf352
  v51 := Tryz.zeroValue352
  t53 := Tryz.underlying83
  a53 := Tryz.isAgg83
  z53 := Tryz.sizeOf83
  v53 := Tryz.zeroValue83
  t171 := Tryz.underlying345
  a171 := Tryz.isAgg345
  z171 := Tryz.sizeOf345
  v171 := Tryz.zeroValue345
  t173 := Tryz.underlying348
  a173 := Tryz.isAgg348
  z173 := Tryz.sizeOf348
  v173 := Tryz.zeroValue348
  t212 := Tryz.underlying351
  a212 := Tryz.isAgg351
  z212 := Tryz.sizeOf351
  v212 := Tryz.zeroValue351
  t213 := Tryz.underlying353
  a213 := Tryz.isAgg353
  z213 := Tryz.sizeOf353
  t232 := Tryz.underlying357
  a232 := Tryz.isAgg357
  z232 := Tryz.sizeOf357
  v232 := Tryz.zeroValue357
  t233 := Tryz.underlying358
  a233 := Tryz.isAgg358
  z233 := Tryz.sizeOf358
  v233 := Tryz.zeroValue358
  g17 := by kernel_rfl
  g18 := by kernel_rfl
  g19 := by kernel_rfl
  i0 := by kernel_rfl
  i2 := by kernel_rfl
  i3 := by kernel_rfl
  i4 := by kernel_rfl
  i5 := by kernel_rfl
  i9 := by kernel_rfl
  i20 := by kernel_rfl
  i37 := by kernel_rfl
  i46 := by kernel_rfl
  i51 := by kernel_rfl
  i53 := by kernel_rfl
  i171 := by kernel_rfl
  i173 := by kernel_rfl
  i212 := by kernel_rfl
  i232 := by kernel_rfl
  i233 := by kernel_rfl
  m17 := by kernel_rfl
  m18 := by kernel_rfl
  m19 := by kernel_rfl }
open Go.RowKit Go.Sort Go.Lib in
theorem Tryz.strconv_Itoa (n : Int) (h0 : -9223372036854775808 ≤ n) (h1 : n ≤ 9223372036854775807) (w : World) (htab : Lib.TabIs Tryz.prog w "internal/strconv.uint64pow10" .u64 Lib.pow10Tab) :
    Calls Tryz.prog 249 #[.int .i64 n] w fun e w' => e = .returned (.string ⟨(Lib.itoa n).toArray⟩) ∧ ∃ k os, w' = grow (w.drewN k) os := Any.strconv_Itoa Tryz.laysM171 n h0 h1 w htab
end Go.Proofs
/- A Book's marks of words: '#' and a whole number's digits; what must be laid for them. -/
namespace Go.Proofs.YteflnicgohjiiaaGreatDoor
open Go.RowKit

structure Lp (w : World) : Prop where
  pw : Lib.TabIs Tryz.prog w "internal/strconv.uint64pow10" .u64 Lib.pow10Tab
theorem gPowW : Tryz.prog.globalNamed "internal/strconv.uint64pow10" = some 0 := by kernel_rfl
theorem Lp.below {w w' : World} (h : Lp w) (hb : Below w.heap.size w w') : Lp w' := by
  have hp := h.pw
  refine ⟨?_⟩
  unfold Lib.TabIs at hp ⊢
  have hlt : 0 < w.heap.size := by
    rcases Nat.lt_or_ge 0 w.heap.size with h' | h'
    · exact h'
    · have : w.var? Tryz.prog "internal/strconv.uint64pow10" = none := by unfold World.var?; rw [gPowW]; simp [Array.getElem?_eq_none h']
      rw [this] at hp; cases hp
  exact var?_below hb gPowW hlt hp
theorem itoaW (n : Nat) (hn : n ≤ 9223372036854775807) (w : World) (hL : Lp w) :
    Calls Tryz.prog 249 #[.int .i64 n] w fun e w' => e = .returned (.string ⟨(Lib.decDigits n).toArray⟩) ∧ Below w.heap.size w w' := by
  refine (Tryz.strconv_Itoa n (by omega) (by omega) w hL.pw).mono fun e w' ⟨h1, k, os, h2⟩ => ⟨?_, ?_⟩
  · rw [h1, Lib.itoa, if_neg (by omega), Int.toNat_natCast]
  · subst h2
    exact ⟨rfl, rfl, rfl, by show w.heap.size ≤ (w.heap ++ os).size; rw [Array.size_append]; omega, fun j hj => by show (w.heap ++ os)[j]? = w.heap[j]?; exact Array.getElem?_append_left hj⟩
def sW (n : Nat) : ByteArray := ⟨(35 :: Lib.decDigits n).toArray⟩
theorem hash_txt (l : List UInt8) : (⟨#[35]⟩ : ByteArray) ++ ⟨l.toArray⟩ = ⟨(35 :: l).toArray⟩ := by
  apply ByteArray.ext
  rw [ByteArray.data_append]
  apply Array.ext'
  simp
theorem dc_le (v : Nat) : (Lib.decDigits v).length ≤ v + 1 := by
  induction v using Nat.strongRecOn with
  | _ v ih =>
    by_cases h : v < 10
    · rw [Lib.decDigits, dif_pos h]; simp
    · rw [Lib.decDigits, dif_neg h, List.length_append, List.length_singleton]
      have := ih (v / 10) (by omega)
      omega
theorem wordS (n : Nat) (hn : n < 1000000000) (W : World) (hL : Lp W) : Calls Tryz.prog 229 #[.int .i64 (n : Int)] W fun e w' => e = .returned (.string (sW n)) ∧ Below W.heap.size W w' := by
  have HI := hide (itoaW n (by omega) W hL)
  have HT : Hid ((⟨#[35]⟩ : ByteArray) ++ ⟨(Lib.decDigits n).toArray⟩ = sW n) := hash_txt _
  have hs : ¬ 9223372036854775807 < 1 + (⟨(Lib.decDigits n).toArray⟩ : ByteArray).size := by have := dc_le n; simp [ByteArray.size]; omega
  generalize (⟨(Lib.decDigits n).toArray⟩ : ByteArray) = T at *
  generalize sW n = S at *
  clear hL
  go_enter Tryz.func229, Tryz.ntmps229
  go_wp2_with fail
  refine HI.out.mono ?_
  rintro e w1 ⟨rfl, hb⟩
  have HB := hide hb
  clear hb
  go_wp2
  go_ret
  exact ⟨by rw [HT.out]; rfl, HB.out⟩
end Go.Proofs.YteflnicgohjiiaaGreatDoor
/- A Book's marks of entries are told and known again. -/
namespace Go.Proofs.YteflnicgohjiiaaGreatDoor
open Go.RowKit

theorem cells_of4 {W : World} {b : Nat} {x0 x1 x2 x3 : Value} {t : TypeId} (h : W.heap[b]? = some (.cells #[x0, x1, x2, x3] t (0, 0))) :
    (W.cell? ⟨b, 0, none⟩ = some x0 ∧ W.cell? ⟨b, 1, none⟩ = some x1 ∧ W.cell? ⟨b, 2, none⟩ = some x2 ∧ W.cell? ⟨b, 3, none⟩ = some x3) ∧ W.frozen? ⟨b, 0, none⟩ = false ∧ W.frozen? ⟨b, 1, none⟩ = false ∧ W.frozen? ⟨b, 2, none⟩ = false ∧ W.frozen? ⟨b, 3, none⟩ = false := by
  refine ⟨⟨?_, ?_, ?_, ?_⟩, ?_, ?_, ?_, ?_⟩ <;> simp [World.cell?, World.frozen?, h]
def set4 (W : World) (b : Nat) (x0 x1 x2 x3 : Value) : World := (((W.setCell ⟨b, 0, none⟩ x0).setCell ⟨b, 1, none⟩ x1).setCell ⟨b, 2, none⟩ x2).setCell ⟨b, 3, none⟩ x3
theorem set4_got {W : World} {b : Nat} {t : TypeId} {y0 y1 y2 y3 : Value} (h : W.heap[b]? = some (.cells #[y0, y1, y2, y3] t (0, 0))) (x0 x1 x2 x3 : Value) : (set4 W b x0 x1 x2 x3).heap[b]? = some (.cells #[x0, x1, x2, x3] t (0, 0)) := by
  have hl := (Array.getElem?_eq_some_iff.1 h).1
  simp [set4, World.setCell, Array.getElem?_modify, h]
theorem set4_below {W w : World} {B b : Nat} (h : Below B w W) (hb : B ≤ b) (x0 x1 x2 x3 : Value) : Below B w (set4 W b x0 x1 x2 x3) :=
  (((h.setCell (p := ⟨b, 0, none⟩) hb x0).setCell (p := ⟨b, 1, none⟩) hb x1).setCell (p := ⟨b, 2, none⟩) hb x2).setCell (p := ⟨b, 3, none⟩) hb x3
theorem marksE {w0 : World} (hL : Lp w0) : MarksEntry sW w0.heap.size w0 := by
  intro m hm W hW
  have HI := hide (fun W2 (h : Below W.heap.size W W2) => wordS m hm W2 ((hL.below hW).below h))
  generalize sW m = S at *
  clear hL hW
  go_enter Tryz.func168, Tryz.ntmps168
  go_wp2_with fail
  refine (HI.out _ ((Below.refl _ _).alloc (Nat.le_refl _) _)).mono ?_
  rintro e w1 ⟨rfl, hb⟩
  have hblk : w1.heap[W.heap.size]? = some (.cells #[.slice none 0 0, .int .i64 0, .string ⟨#[]⟩, .slice none 0 0] 30 (0, 0)) := (hb.block _ (by simp)).trans (heap_alloc_new W _)
  have HW : Hid (Below W.heap.size W w1) := ((Below.refl _ _).alloc (Nat.le_refl _) _).trans (hb.mono (by simp))
  obtain ⟨⟨k0, k1, k2, k3⟩, f0, f1, f2, f3⟩ := cells_of4 hblk
  have HBk := hide hblk
  clear hblk hb
  go_wp2
  have hg := cells_of4 (set4_got HBk.out (.slice none 0 0) (.int .i64 0) (.string S) (.slice none 0 0))
  have HBB := hide (set4_below HW.out (Nat.le_refl _) (.slice none 0 0) (.int .i64 0) (.string S) (.slice none 0 0))
  unfold set4 at hg
  obtain ⟨⟨q0, q1, q2, q3⟩, _⟩ := hg
  exact bodyPost_ret (v := .agg #[.slice none 0 0, .int .i64 0, .string S, .slice none 0 0]) (by simp [results, Tryz.results168, go_sem, q0, q1, q2, q3]) rfl ⟨rfl, HBB.out⟩
theorem isMarkE {w0 : World} (hL : Lp w0) : IsEntry sW w0.heap.size w0 := by
  intro m hm W hW
  have HI := hide (fun W2 (h : Below W.heap.size W W2) => wordS m hm W2 ((hL.below hW).below h))
  generalize sW m = S at *
  clear hL hW
  have hx : (S.toList == S.toList) = true := by simp
  go_enter Tryz.func198, Tryz.ntmps198
  go_wp2
  go_region_with (go_at_call 229; refine (HI.out _ (((Below.refl _ _).alloc (Nat.le_refl _) _).drew)).mono ?_; rintro e w1 ⟨rfl, hb⟩; have c1 : w1.cell? ⟨W.heap.size, 2, none⟩ = some (.string S) := (hb.cell (p := ⟨W.heap.size, 2, none⟩) (by simp)).trans (by unfold World.cell?; rw [show (World.drew (W.alloc (.cells #[.slice none 0 0, .int .i64 0, .string S, .slice none 0 0] 30))).heap[W.heap.size]? = _ from heap_alloc_new W _]; rfl); have HB := hide (((Below.refl _ _).alloc (Nat.le_refl _) _).drew.trans (hb.mono (by simp))); clear hb)
  all_goals
    go_wp2
    go_ret
    exact ⟨rfl, HB.out⟩
end Go.Proofs.YteflnicgohjiiaaGreatDoor
