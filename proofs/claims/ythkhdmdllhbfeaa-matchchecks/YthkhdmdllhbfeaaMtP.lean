/- package match: does a match match; how much an entry counts; are keys as wide. -/
import Derived.Test.YthkhdmdllhbfeaaMtO
namespace Go.Proofs.Ythkhdmdllhbfeaa
open Go.RowKit

def mtB (t : Tb) (keys : List Nb) (i : Nat) (x : Mx) : Bool := wide x.v (keys.getD i nb0).w && matK (t.ks.getD i 0) x (keys.getD i nb0)
def NbS (W : World) (b : Nat) (a : Option Addr) (n cap : Nat) : Prop := W.heap[b]? = some (.cells #[.slice a n cap] 28 (0, 0))
theorem NbS.below {W W' : World} {b : Nat} {a : Option Addr} {n cap : Nat} (h : NbS W b a n cap) (hb : Below W.heap.size W W') : NbS W' b a n cap := heap_below hb h
theorem at1 {W : World} {b : Nat} {x : Value} {t : TypeId} (h : W.heap[b]? = some (.cells #[x] t (0, 0))) : W.cell? ⟨b, 0, none⟩ = some x ∧ ∀ o, W.frozen? ⟨b, o, none⟩ = false := by
  refine ⟨?_, fun o => ?_⟩
  · unfold World.cell?; simp only [h]; rfl
  · unfold World.frozen?; simp only [h]; simp
set_option maxRecDepth 100000 in
set_option maxHeartbeats 4000000 in
theorem matAt_any (x : TbL) (keys : List Nb) (a : Option Addr) (cap : Nat) (tb rb kb i : Nat) (m : Mx) (hm : MxR m) (w : World) (hx : TbR w x) (hkr : RdN w a keys) (hkn : ∀ b ∈ keys, NbR b) (ht : TbB w tb x) (hk : KiB w rb) (hs : NbS w kb a keys.length cap) (hi : i < x.t.ks.length) (hi' : i < keys.length) (k1 : 1 ≤ x.t.ks[i]) (k4 : x.t.ks[i] ≤ 4) :
    Calls Try.prog 62 #[.int .i64 i, m.val, .pointer (some ⟨kb, 0, none⟩), .pointer (some ⟨rb, 0, none⟩), .pointer (some ⟨tb, 0, none⟩)] w fun e w' => e = .returned (.bool (mtB x.t keys i m)) ∧ Below w.heap.size w w' := by
  have E : mtB x.t keys i m = (wide m.v keys[i].w && matK x.t.ks[i] m keys[i]) := by simp [mtB, hi, hi']
  rw [E]
  clear E
  have hwr := (hkn keys[i] (List.getElem_mem hi')).w
  have HW : Hid (Pure _ _ _) := isWide_any m.v keys[i].w hm.v
  have HM : Hid (Pure _ _ _) := matF_any x.t.ks[i] k1 k4 m keys[i] hm hwr.2
  have hlI : (i : Int) < (x.t.ks.length : Int) := by omega
  have hlJ : (i : Int) < (keys.length : Int) := by omega
  obtain ⟨p, off, ep, hp, hcl⟩ := hx.ks.some (by omega)
  obtain ⟨p', off', ep', hp', hcl'⟩ := hkr.some (by omega)
  have q0 := hcl i hi
  obtain ⟨q1, q2, q3⟩ := hcl' i hi'
  have KM := hide (kindsL_mat _ k1 k4)
  have HT := hide ht
  have HK := hide hk
  have HS := hide hs
  have hik : i < x.t.ks.length := hi
  have hiw : i < keys.length := hi'
  clear hcl hcl' hwr hm hx ht hk hkr hkn hs
  generalize x.t.ks[i] = k at *
  generalize keys[i] = key at *
  generalize hwd : wide m.v key.w = t1' at *
  generalize hmk : matK k m key = t2' at *
  clear hwd hmk hi hi'
  obtain ⟨⟨ks, ws, size⟩, ka, kc, wa, wc⟩ := x
  simp only at *
  subst ep ep'
  obtain ⟨⟨vw, vh, vl⟩, ⟨mw, mh, ml⟩, len⟩ := m
  obtain ⟨kw, kh, kl⟩ := key
  simp only [Mx.val, Nb.val] at *
  generalize hW1 : w.alloc (.cells #[.int .i64 vw, .int .u64 vh, .int .u64 vl, .int .i64 mw, .int .u64 mh, .int .u64 ml, .int .i64 len] 62) = W1
  have B1 : Below w.heap.size w W1 := hW1 ▸ below1 _ _
  have HB1 := hide B1
  obtain ⟨X, f, hX, hS, hcov⟩ := class_of (fun w' => Below W1.heap.size W1 w') W1.drew (Below.refl _ _).drew
  have HC0 : Hid (∃ x, W1.drew = f x) := hcov _ (Below.refl _ _).drew
  have HNX : Hid (∀ x w', Below (f x).heap.size (f x) w' → ∃ y, w' = f y) := fun x w' hb => hcov w' ((hS x).trans (hb.mono (hS x).size))
  have HSS := hide hS
  have HBX : Hid (∀ x, Below w.heap.size w (f x)) := fun x => bstep B1 (hS x)
  have hm7 : W1.heap[w.heap.size]? = some (.cells #[.int .i64 vw, .int .u64 vh, .int .u64 vl, .int .i64 mw, .int .u64 mh, .int .u64 ml, .int .i64 len] 62 (0, 0)) := hW1 ▸ heap_alloc_new _ _
  have t0 := fun x => (at7 (heap_below (hS x) hm7)).1
  have t1 := fun x => (at7 (heap_below (hS x) hm7)).2.1
  have t2 := fun x => (at7 (heap_below (hS x) hm7)).2.2.1
  have t3 := fun x => (at7 (heap_below (hS x) hm7)).2.2.2.1
  have t4 := fun x => (at7 (heap_below (hS x) hm7)).2.2.2.2.1
  have t5 := fun x => (at7 (heap_below (hS x) hm7)).2.2.2.2.2.1
  have t6 := fun x => (at7 (heap_below (hS x) hm7)).2.2.2.2.2.2
  have s0 := fun x => (at3 (heap_below (HBX.out x) HT.out)).1
  have s1 := fun x => (at1 (heap_below (HBX.out x) HS.out)).1
  have r0 := fun x => ((HBX.out x).cell (p := ⟨p, off + i, none⟩) hp).trans q0
  have r1 := fun x => ((HBX.out x).cell (p := ⟨p', off' + i * 3, none⟩) hp').trans q1
  have r2 := fun x => ((HBX.out x).cell (p := ⟨p', off' + i * 3 + 1, none⟩) hp').trans q2
  have r3 := fun x => ((HBX.out x).cell (p := ⟨p', off' + i * 3 + 2, none⟩) hp').trans q3
  have u0 := fun x => cellK (HK.out.below (HBX.out x)) KM.out
  simp only at s0 s1
  have HW1 := hide hW1
  clear hcov hS B1 hm7 q0 q1 q2 q3 hW1
  rcases (by omega : k = 1 ∨ k = 2 ∨ k = 3 ∨ k = 4) with rfl | rfl | rfl | rfl
  · have r0' : ∀ x, (f x).cell? ⟨p, off + i, none⟩ = some (.int .u8 1) := r0
    have u0' : ∀ x, (f x).cell? ⟨rb, 3, none⟩ = some (.func (.func 73) #[] #[]) := u0
    have HM' : Hid (Pure 73 #[.agg #[.int .i64 vw, .int .u64 vh, .int .u64 vl, .int .i64 mw, .int .u64 mh, .int .u64 ml, .int .i64 len], .agg #[.int .i64 kw, .int .u64 kh, .int .u64 kl]] (.bool t2')) := HM
    clear r0 u0 HM KM k1 k4
    cases t1'
    all_goals
      go_enter Try.func62, Try.ntmps62
      go_wp2
      rw [HW1.out]
      refine wp_region_class f (by kernel_rfl) (by kernel_rfl) HC0.out ?_
      repeat (first
        | go_big_quiet_skip
        | (go_big_quiet_want; go_big_quiet_op; first
            | go_big_quiet_on
            | (apply Exists.intro
               refine ⟨fun _ => ?_, ?_⟩
               · first
                  | (go_at_call 39; refine (HW.out _).mono ?_; rintro e' wn ⟨rfl, hb⟩; exact ⟨rfl, HNX.out _ _ hb⟩)
                  | (go_at_call 73; refine (HM'.out _).mono ?_; rintro e' wn ⟨rfl, hb⟩; exact ⟨rfl, HNX.out _ _ hb⟩)
               go_big_quiet_on)))
      refine wpQuiet_nil ?_
      rintro _ ⟨x, rfl⟩
      go_wp2
      go_ret
      exact ⟨rfl, HBX.out x⟩
  · have r0' : ∀ x, (f x).cell? ⟨p, off + i, none⟩ = some (.int .u8 2) := r0
    have u0' : ∀ x, (f x).cell? ⟨rb, 5, none⟩ = some (.func (.func 76) #[] #[]) := u0
    have HM' : Hid (Pure 76 #[.agg #[.int .i64 vw, .int .u64 vh, .int .u64 vl, .int .i64 mw, .int .u64 mh, .int .u64 ml, .int .i64 len], .agg #[.int .i64 kw, .int .u64 kh, .int .u64 kl]] (.bool t2')) := HM
    clear r0 u0 HM KM k1 k4
    cases t1'
    all_goals
      go_enter Try.func62, Try.ntmps62
      go_wp2
      rw [HW1.out]
      refine wp_region_class f (by kernel_rfl) (by kernel_rfl) HC0.out ?_
      repeat (first
        | go_big_quiet_skip
        | (go_big_quiet_want; go_big_quiet_op; first
            | go_big_quiet_on
            | (apply Exists.intro
               refine ⟨fun _ => ?_, ?_⟩
               · first
                  | (go_at_call 39; refine (HW.out _).mono ?_; rintro e' wn ⟨rfl, hb⟩; exact ⟨rfl, HNX.out _ _ hb⟩)
                  | (go_at_call 76; refine (HM'.out _).mono ?_; rintro e' wn ⟨rfl, hb⟩; exact ⟨rfl, HNX.out _ _ hb⟩)
               go_big_quiet_on)))
      refine wpQuiet_nil ?_
      rintro _ ⟨x, rfl⟩
      go_wp2
      go_ret
      exact ⟨rfl, HBX.out x⟩
  · have r0' : ∀ x, (f x).cell? ⟨p, off + i, none⟩ = some (.int .u8 3) := r0
    have u0' : ∀ x, (f x).cell? ⟨rb, 7, none⟩ = some (.func (.func 79) #[] #[]) := u0
    have HM' : Hid (Pure 79 #[.agg #[.int .i64 vw, .int .u64 vh, .int .u64 vl, .int .i64 mw, .int .u64 mh, .int .u64 ml, .int .i64 len], .agg #[.int .i64 kw, .int .u64 kh, .int .u64 kl]] (.bool t2')) := HM
    clear r0 u0 HM KM k1 k4
    cases t1'
    all_goals
      go_enter Try.func62, Try.ntmps62
      go_wp2
      rw [HW1.out]
      refine wp_region_class f (by kernel_rfl) (by kernel_rfl) HC0.out ?_
      repeat (first
        | go_big_quiet_skip
        | (go_big_quiet_want; go_big_quiet_op; first
            | go_big_quiet_on
            | (apply Exists.intro
               refine ⟨fun _ => ?_, ?_⟩
               · first
                  | (go_at_call 39; refine (HW.out _).mono ?_; rintro e' wn ⟨rfl, hb⟩; exact ⟨rfl, HNX.out _ _ hb⟩)
                  | (go_at_call 79; refine (HM'.out _).mono ?_; rintro e' wn ⟨rfl, hb⟩; exact ⟨rfl, HNX.out _ _ hb⟩)
               go_big_quiet_on)))
      refine wpQuiet_nil ?_
      rintro _ ⟨x, rfl⟩
      go_wp2
      go_ret
      exact ⟨rfl, HBX.out x⟩
  · have r0' : ∀ x, (f x).cell? ⟨p, off + i, none⟩ = some (.int .u8 4) := r0
    have u0' : ∀ x, (f x).cell? ⟨rb, 9, none⟩ = some (.func (.func 83) #[] #[]) := u0
    have HM' : Hid (Pure 83 #[.agg #[.int .i64 vw, .int .u64 vh, .int .u64 vl, .int .i64 mw, .int .u64 mh, .int .u64 ml, .int .i64 len], .agg #[.int .i64 kw, .int .u64 kh, .int .u64 kl]] (.bool t2')) := HM
    clear r0 u0 HM KM k1 k4
    cases t1'
    all_goals
      go_enter Try.func62, Try.ntmps62
      go_wp2
      rw [HW1.out]
      refine wp_region_class f (by kernel_rfl) (by kernel_rfl) HC0.out ?_
      repeat (first
        | go_big_quiet_skip
        | (go_big_quiet_want; go_big_quiet_op; first
            | go_big_quiet_on
            | (apply Exists.intro
               refine ⟨fun _ => ?_, ?_⟩
               · first
                  | (go_at_call 39; refine (HW.out _).mono ?_; rintro e' wn ⟨rfl, hb⟩; exact ⟨rfl, HNX.out _ _ hb⟩)
                  | (go_at_call 83; refine (HM'.out _).mono ?_; rintro e' wn ⟨rfl, hb⟩; exact ⟨rfl, HNX.out _ _ hb⟩)
               go_big_quiet_on)))
      refine wpQuiet_nil ?_
      rintro _ ⟨x, rfl⟩
      go_wp2
      go_ret
      exact ⟨rfl, HBX.out x⟩
set_option maxRecDepth 100000 in
set_option maxHeartbeats 4000000 in
theorem equalFunc_any (a b : Option Addr) (ca cb : Nat) (keys : List Nb) (ws : List Int) (w : World) (hr : RdN w a keys) (hz : RdZ w b ws) (hn : ∀ k ∈ keys, NbR k) (hl : keys.length ≤ 140737488355328) :
    Calls Try.prog 38 #[.slice a keys.length ca, .slice b ws.length cb, .func (.func 39) #[] #[]] w fun e w' => e = .returned (.bool (keys.length == ws.length && allI (fun i k => wide k (ws.getD i 0)) 0 keys)) ∧ Below w.heap.size w w' := by
  by_cases hlen : keys.length = ws.length
  · have hl2 : ((keys.length : Int) == (ws.length : Int)) = true := by simp [hlen]
    have HR := hide hr
    have HZ := hide hz
    have HL := hide hlen
    have HNB := hide hn
    have E : (keys.length == ws.length && allI (fun i k => wide k (ws.getD i 0)) 0 keys) = allI (fun i k => wide k (ws.getD i 0)) 0 keys := by simp [hlen]
    rw [E, ← hlen]
    clear hr hz hn hl2 hlen E
    generalize hP : (fun i k => wide k (ws.getD i 0)) = P at *
    have HP : Hid (∀ i k, P i k = wide k (ws.getD i 0)) := fun i k => by rw [← hP]
    clear hP
    go_enter Try.func38, Try.ntmps38
    go_wp2
    go_loopw [17] (fun i wr => ∃ k : Nat, k ≤ keys.length ∧ i = .int .i64 k ∧ (∀ j (hj : j < k) (hj' : j < keys.length), P j keys[j] = true) ∧ Below w.heap.size w wr) (fun i _ => keys.length - (intOf i).toNat)
    case atStart => exact ⟨0, by omega, rfl, fun j hj => absurd hj (by omega), Below.refl _ _⟩
    case round =>
      obtain ⟨k, hk, rfl, hn, hb⟩ := hrel
      have HN := hide hn
      have HW := hide hb
      clear hn hb
      by_cases hlt : k < keys.length
      · have hlt2 : k < ws.length := by have := HL.out; omega
        obtain ⟨p, off, rfl, hp, hcl⟩ := (HR.out.below HW.out).some (by omega)
        obtain ⟨p', off', rfl, hp', hcl'⟩ := (HZ.out.below HW.out).some (by omega)
        obtain ⟨q0, q1, q2⟩ := hcl k hlt
        have r0 : ∀ o, (wr.alloc o).cell? ⟨p', off' + k, none⟩ = some (.int .i64 ws[k]) := fun o => ((below1 wr o).cell (p := ⟨p', off' + k, none⟩) hp').trans (hcl' k hlt2)
        have hlI : (k : Int) < (keys.length : Int) := by omega
        have HC : Hid (Pure _ _ _) := isWide_any keys[k] ws[k] (HNB.out _ (List.getElem_mem hlt))
        have HX : Hid (P k keys[k] = true → ∀ j (hj : j < k + 1) (hj' : j < keys.length), P j keys[j] = true) := fun ho j hj hj' => by
          by_cases e : j = k
          · subst e; exact ho
          · exact HN.out j (by omega) hj'
        have HO : Hid (P k keys[k] = false → allI P 0 keys = false) := fun ho => allI_no keys 0 k hlt (by rw [Nat.zero_add]; exact ho)
        have HE : Hid (P k keys[k] = wide keys[k] ws[k]) := by show _ = _; rw [HP.out]; simp [hlt2]
        clear hcl hcl' hp hp'
        rw [HE.out] at HX HO
        clear HE
        generalize keys[k] = x at *
        generalize ws[k] = n at *
        generalize wide x n = t at *
        obtain ⟨xw, xh, xl⟩ := x
        simp only [Nb.val] at *
        cases t
        · go_wp2_with fail
          refine (HC.out _).mono ?_
          rintro e w1 ⟨rfl, hb⟩
          go_wp2
          go_ret
          exact ⟨by rw [HO.out (by first | rfl | trivial)]; rfl, bstep (bstep HW.out (below1 _ _)) hb⟩
        · go_wp2_with fail
          refine (HC.out _).mono ?_
          rintro e w1 ⟨rfl, hb⟩
          go_wp2
          go_roundw
          case rel => exact ⟨k + 1, by omega, by go_num, HX.out (by first | rfl | trivial), bstep (bstep HW.out (below1 _ _)) hb⟩
          case measure => simp [intOf]; omega
      · obtain rfl : k = keys.length := by omega
        have HH := hide (allI_yes (p := P) keys 0 (fun j hj => by rw [Nat.zero_add]; exact HN.out j hj hj))
        go_wp2
        go_ret
        exact ⟨by rw [HH.out]; rfl, HW.out⟩
  · have hl2 : ((keys.length : Int) == (ws.length : Int)) = false := by simp; omega
    have hl3 : ((keys.length : Int) = (ws.length : Int)) = False := by simp; omega
    have hl4 : (keys.length = ws.length) = False := by simp; omega
    have HE : Hid ((keys.length == ws.length && allI (fun i k => wide k (ws.getD i 0)) 0 keys) = false) := by show _ = _; simp [hlen]
    clear hlen hr hz hl hn
    go_enter Try.func38, Try.ntmps38
    go_wp2
    go_ret
    exact ⟨by rw [HE.out]; rfl, Below.refl _ _⟩
end Go.Proofs.Ythkhdmdllhbfeaa
