/- Pieces of the proof: WQ, WR, WF, WG, WH. -/
import Derived.Test.YthlfbpadakoamaaM5
import Derived.Defers
import Derived.Recover
/- package wire: a request's kinds, as they are read. -/
namespace Go.Proofs.Ythlfbpadakoamaa
open Go.RowKit Go.MapKept

def ReqR (W : World) (X : Nat → Prop) (v : Value) (x : ReqA) : Prop := ∃ vu, v = .agg #[.int .u8 x.kind, .string x.src, .string x.table, .int .i64 x.n, vu] ∧ ListR UpdR mkAgg 8 W X vu x.ups
theorem req_ok : RepOk ReqR where
  mono := fun ⟨vu, e, h1⟩ hm => ⟨vu, e, (ListR.ok upd_ok _ _).mono h1 hm⟩
  frame := fun ⟨vu, e, h1⟩ hs hf => ⟨vu, e, (ListR.ok upd_ok _ _).frame h1 hs hf⟩
theorem cells5 {W : World} {s : Nat} {a b c d e : Value} {t : TypeId} (h : W.heap[s]? = some (.cells #[a, b, c, d, e] t (0, 0))) : W.cell? ⟨s, 0, none⟩ = some a ∧ W.cell? ⟨s, 1, none⟩ = some b ∧ W.cell? ⟨s, 2, none⟩ = some c ∧ W.cell? ⟨s, 3, none⟩ = some d ∧ W.cell? ⟨s, 4, none⟩ = some e ∧ ∀ o, W.frozen? ⟨s, o, none⟩ = false := by
  refine ⟨?_, ?_, ?_, ?_, ?_, fun o => ?_⟩
  all_goals first | (unfold World.cell?; simp only [h]; rfl) | (unfold World.frozen?; simp only [h]; simp)
theorem list_none {α : Type} {rep : World → (Nat → Prop) → Value → α → Prop} {mk : List Value → Value} {K : Nat} {W W' : World} {X X' : Nat → Prop} {v : Value} {l : List α} (hl : l = []) (h : ListR rep mk K W X v l) : ListR rep mk K W' X' v l := by
  subst hl
  obtain ⟨css, ⟨a, cap, h1, h2, h3, h4, _⟩, h5, _⟩ := h
  exact ⟨css, ⟨a, cap, h1, h2, h3, h4, .inl rfl⟩, h5, fun i _ h => by simp at h⟩
theorem read_ups {xs ys : List Nat} {x : ReqA} (h : readP xs = some (x, ys)) : x.ups = [] := by
  simp only [readP, Option.bind_eq_some_iff] at h
  obtain ⟨⟨t, zs⟩, _, h2⟩ := h
  simp only [Option.some.injEq, Prod.mk.injEq] at h2
  rw [← h2.1]
def zeroQ : Obj := .cells #[.int .u8 0, .string ⟨#[]⟩, .string ⟨#[]⟩, .int .i64 0, .slice none 0 0] 27
theorem Rr.setc5 {w W : World} {p q : Nat} {xs : List Nat} (h : Rr w W p q xs) {s : Nat} {a b c d e : Value} (hs : w.heap.size ≤ s) : Rr w (((((W.setCell ⟨s, 0, none⟩ a).setCell ⟨s, 1, none⟩ b).setCell ⟨s, 2, none⟩ c).setCell ⟨s, 3, none⟩ d).setCell ⟨s, 4, none⟩ e) p q xs := ((((h.setc hs).setc hs).setc hs).setc hs).setc hs
set_option maxHeartbeats 2000000 in
theorem install_reads : Reads 24 installP ReqR := fun W p q xs h => by
  have hp := h.pl
  have hs := heap_alloc_new W zeroQ
  have R0 := hide (h.alloc zeroQ)
  obtain ⟨off, cap, hc, _, _⟩ := (h.alloc zeroQ).cell
  have HT := hide (take_yes xs.length R0.out.base (Nat.le_refl _))
  unfold zeroQ at HT R0 hs hc
  have HS := hide hs
  clear hs h
  obtain ⟨S, hS⟩ : ∃ S, strOf xs = S := ⟨_, rfl⟩
  have HSS := hide hS
  clear hS
  go_enter Try.func24, Try.ntmps24
  go_wp2_with fail
  refine HT.out.mono ?_
  rintro e w1 ⟨off', cap', rfl, hk⟩
  have hr := hk.rr
  have hst := run_str q off' cap' xs w1 (by have := hk.bs; rw [List.take_of_length_le (Nat.le_refl _)] at this; exact this)
  rw [HSS.out] at hst
  have hs1 := hr.keep HS.out (by omega)
  obtain ⟨a0, a1, a2, a3, a4, af⟩ := cells5 hs1
  have R1 := hide (R0.out.trans hr)
  clear hk hr hs1 HT hc
  go_wp2
  refine bodyPost_ret (v := .agg #[.int .u8 0, .string S, .string ⟨#[]⟩, .int .i64 0, .slice none 0 0]) (by simp [results, Try.results24, go_sem, a0, a1, a2, a3, a4]) rfl (.inl ⟨⟨0, S, ByteArray.empty, 0, []⟩, [], _, by simp [installP, HSS.out], rfl, ⟨_, rfl, list_nil _ _ _ _ _⟩, ?_⟩)
  have := R1.out
  rw [List.drop_length] at this
  exact this.setc5 (Nat.le_refl _)
set_option maxHeartbeats 2000000 in
theorem read_reads : Reads 26 readP ReqR := fun W p q xs h => by
  have hp := h.pl
  have hs := heap_alloc_new W zeroQ
  have R0 := hide (h.alloc zeroQ)
  have HN := hide (name_reads _ p q xs R0.out.base)
  unfold zeroQ at HN R0 hs
  have HS := hide hs
  clear hs h
  go_enter Try.func26, Try.ntmps26
  go_wp2_with fail
  refine HN.out.mono ?_
  rintro e w1 (⟨tb, ys, v, hpf, rfl, hv, hr⟩ | ⟨hpf, rfl, hf⟩)
  · obtain rfl : v = .string tb := hv
    obtain ⟨a0, a1, a2, a3, a4, af⟩ := cells5 (hr.keep HS.out (by omega))
    have R1 := hide (R0.out.trans hr)
    have HP1 := hide hpf
    clear hr hpf HN
    go_wp2
    refine bodyPost_ret (v := .agg #[.int .u8 0, .string ⟨#[]⟩, .string tb, .int .i64 0, .slice none 0 0]) (by simp [results, Try.results26, go_sem, a0, a1, a2, a3, a4]) rfl (.inl ⟨⟨0, ByteArray.empty, tb, 0, []⟩, ys, _, by simp [readP, HP1.out], rfl, ⟨_, rfl, list_nil _ _ _ _ _⟩, ?_⟩)
    exact R1.out.setc5 (Nat.le_refl _)
  · have HN := hide hpf
    have HF := hide hf.after
    clear hf hpf
    go_wp2
    exact ⟨rfl, .inr ⟨by simp [readP, HN.out], rfl, HF.out⟩⟩
set_option maxHeartbeats 2000000 in
theorem write_reads : Reads 25 writeP ReqR := fun W p q xs h => by
  have hmf : ∀ (fn : Fn) (first cap : Array Value) (w : World), (Instr.makeFunc fn first cap).run Try.prog w = .ok (.func fn first cap) w := fun _ _ _ _ => rfl
  have hp := h.pl
  have hs := heap_alloc_new W zeroQ
  have R0 := hide (h.alloc zeroQ)
  have HN := hide (byte_reads _ p q xs R0.out.base)
  unfold zeroQ at HN R0 hs
  have HS := hide hs
  clear hs h
  go_enter Try.func25, Try.ntmps25
  go_wp2_with fail
  refine HN.out.mono ?_
  rintro e w1 (⟨n, ys, v, hpf, rfl, hv, hr⟩ | ⟨hpf, rfl, hf⟩)
  · obtain rfl : v = .int .i64 n := hv
    have HS1 := hide (hr.keep HS.out (by omega))
    have R1 := hide (R0.out.trans hr)
    have HP1 := hide hpf
    clear hr hpf HN
    by_cases hn : n ≤ 64
    · have d1 : ((n : Int) ≤ 64) = True := by simp; omega
      have HL := hide (listOf_update n (by omega) w1 p q ys R1.out.base)
      have HN64 := hide hn
      clear hn
      go_wp2_with fail
      refine (must_yes _).mono ?_
      rintro e w1' ⟨rfl, hw⟩
      subst hw
      go_wp2_with fail
      refine HL.out.mono ?_
      rintro e w2 (⟨l, zs, v, hpf, rfl, hv, hr⟩ | ⟨hpf, rfl, hf⟩)
      · obtain ⟨a, cap, rfl⟩ := list_slice hv
        obtain ⟨a0, a1, a2, a3, a4, af⟩ := cells5 (hr.keep HS1.out (by omega))
        have R2 := hide (R1.out.trans hr)
        have HV := hide hv
        have HP2 := hide hpf
        have HZ := hide R1.out.fr.size
        have HLT := hide (lt_of_heap HS1.out)
        clear hr hpf HL hv
        go_wp2
        refine bodyPost_ret (v := .agg #[.int .u8 0, .string ⟨#[]⟩, .string ⟨#[]⟩, .int .i64 0, .slice a l.length cap]) (by simp [results, Try.results25, go_sem, a0, a1, a2, a3, a4]) rfl (.inl ⟨⟨0, ByteArray.empty, ByteArray.empty, 0, l⟩, zs, _, by simp [writeP, HP1.out, HP2.out, HN64.out], rfl, ?_, ?_⟩)
        · refine ⟨_, rfl, ?_⟩
          have hlt := HLT.out
          exact rep_end (ListR.ok upd_ok _ _) HV.out HZ.out (by simp) (fun b hb _ => by have hne : b ≠ W.heap.size := (by omega); simp only [set_other hne])
        · exact R2.out.setc5 (Nat.le_refl _)
      · have HF := hide (R1.out.fr.trans hf (fun _ _ e => e))
        have HN := hide hpf
        clear hf hpf
        go_wp2
        exact ⟨rfl, .inr ⟨by simp [writeP, HP1.out, HN.out], rfl, HF.out⟩⟩
    · have d1 : ((n : Int) ≤ 64) = False := by simp; omega
      have HN64 := hide hn
      clear hn
      go_wp2_with fail
      refine (must_no _).mono ?_
      rintro e w1' ⟨rfl, hw⟩
      subst hw
      go_wp2
      exact ⟨rfl, .inr ⟨by simp [writeP, HP1.out, HN64.out], rfl, R1.out.fr⟩⟩
  · have HN := hide hpf
    have HF := hide hf.after
    clear hf hpf
    go_wp2
    exact ⟨rfl, .inr ⟨by simp [writeP, HN.out], rfl, HF.out⟩⟩
set_option maxHeartbeats 2000000 in
theorem cells_reads : Reads 27 cellsP ReqR := fun W p q xs h => by
  have hp := h.pl
  have hs := heap_alloc_new W zeroQ
  have R0 := hide (h.alloc zeroQ)
  have HN := hide (read_reads _ p q xs R0.out.base)
  unfold zeroQ at HN R0 hs
  have HS := hide hs
  clear hs h
  go_enter Try.func27, Try.ntmps27
  go_wp2_with fail
  refine HN.out.mono ?_
  rintro e w1 (⟨x, ys, v, hpf, rfl, hv, hr⟩ | ⟨hpf, rfl, hf⟩)
  · obtain ⟨vu, rfl, hvu⟩ := hv
    obtain ⟨ua, uc, rfl⟩ := list_slice hvu
    have hs1 := hr.keep HS.out (by omega)
    have HZ1 := hide (lt_of_heap hs1)
    have R1 := hide (R0.out.trans hr)
    have HP1 := hide hpf
    have HVU := hide hvu
    have HZ0 := hide R0.out.fr.size
    obtain ⟨O, hO⟩ : ∃ O, O = Obj.cells #[.int .u8 x.kind, .string x.src, .string x.table, .int .i64 x.n, .slice ua x.ups.length uc] 27 := ⟨_, rfl⟩
    have R1' := hide (R1.out.alloc O)
    have HS1' := hide ((Below.heap_alloc w1 O _ HZ1.out).trans hs1)
    have HT1' := hide (heap_alloc_new w1 O)
    have HB := hide (whole_reads _ p q ys R1'.out.base)
    rw [hO] at R1' HS1' HT1' HB
    clear hr hpf HN hs1 hO hvu
    go_wp2_with fail
    refine HB.out.mono ?_
    rintro e w2 (⟨n, zs, v, hpf, rfl, hv, hr⟩ | ⟨hpf, rfl, hf⟩)
    · obtain rfl : v = .int .i64 n := hv
      have hs2 := hr.keep HS1'.out (by omega)
      have hz1 := HZ1.out
      have ht2 := hr.keep HT1'.out (by omega)
      obtain ⟨a0, a1, a2, a3, a4, af⟩ := cells5 hs2
      obtain ⟨b0, b1, b2, b3, b4, bf⟩ := cells5 ht2
      have R2 := hide (R1'.out.trans hr)
      have HP2 := hide hpf
      clear hr hpf HB hs2 ht2
      go_wp2
      refine bodyPost_ret (v := .agg #[.int .u8 x.kind, .string x.src, .string x.table, .int .i64 n, .slice ua x.ups.length uc]) (by simp [results, Try.results27, go_sem, a0, a1, a2, a3, a4]) rfl (.inl ⟨{ x with n := n }, zs, _, by simp [cellsP, HP1.out, HP2.out], rfl, ⟨_, rfl, list_none (show x.ups = [] from read_ups HP1.out) HVU.out⟩, ?_⟩)
      exact (R2.out.setc (Nat.le_of_lt hz1)).setc5 (Nat.le_refl _)
    · have HF := hide (R1'.out.fr.trans hf (fun _ _ e => e))
      have HN := hide hpf
      clear hf hpf
      go_wp2
      exact ⟨rfl, .inr ⟨by simp [cellsP, HP1.out, HN.out], rfl, HF.out⟩⟩
  · have HN := hide hpf
    have HF := hide hf.after
    clear hf hpf
    go_wp2
    exact ⟨rfl, .inr ⟨by simp [cellsP, HN.out], rfl, HF.out⟩⟩
end Go.Proofs.Ythlfbpadakoamaa
/- package wire: a request that is read. -/
namespace Go.Proofs.Ythlfbpadakoamaa
open Go.RowKit Go.MapKept

def tabQ (p : Nat) : List (Int × Spec) := [(1, methT 24 p), (2, methT 25 p), (3, methT 26 p), (4, methT 27 p)]
theorem ent_install : entP 24 := enters_of Try.func24 (by kernel_rfl) rfl
theorem ent_write : entP 25 := enters_of Try.func25 (by kernel_rfl) rfl
theorem ent_read : entP 26 := enters_of Try.func26 (by kernel_rfl) rfl
theorem ent_cells : entP 27 := enters_of Try.func27 (by kernel_rfl) rfl
set_option maxRecDepth 100000 in
theorem zeroQ_fn (W : World) : (zeroValue 46).run Try.prog W = .ok .nilFunc W := rfl
theorem tabQ_has {p : Nat} {s : Int × Spec} (hs : s ∈ tabQ p) {k : Nat} (hk : s.1 = (k : Int)) : ∃ G, s.2 = methT G p ∧ entP G ∧ Reads G (reqK k) ReqR := by
  simp only [tabQ, List.mem_cons, List.not_mem_nil, or_false] at hs
  rcases hs with rfl | rfl | rfl | rfl
  all_goals
    simp only at hk
  · obtain rfl : k = 1 := by omega
    exact ⟨_, rfl, ent_install, install_reads⟩
  · obtain rfl : k = 2 := by omega
    exact ⟨_, rfl, ent_write, write_reads⟩
  · obtain rfl : k = 3 := by omega
    exact ⟨_, rfl, ent_read, read_reads⟩
  · obtain rfl : k = 4 := by omega
    exact ⟨_, rfl, ent_cells, cells_reads⟩
theorem tabQ_not {p k : Nat} (h : ∀ s ∈ tabQ p, s.1 ≠ (k : Int)) (ys : List Nat) : reqK k ys = none := by
  have h1 := h (1, methT 24 p) (by simp [tabQ])
  have h2 := h (2, methT 25 p) (by simp [tabQ])
  have h3 := h (3, methT 26 p) (by simp [tabQ])
  have h4 := h (4, methT 27 p) (by simp [tabQ])
  simp only at h1 h2 h3 h4
  unfold reqK
  rw [if_neg (by omega), if_neg (by omega), if_neg (by omega), if_neg (by omega)]
theorem chosenQ (B p k : Nat) (W : World) (h : Tab W B (tabQ p)) :
    Calls Try.prog 23 #[.map (some B), .int .u8 k] W fun e W' => (∃ G, e = .returned (.func (Fn.func G) #[.pointer (some ⟨p, 0, none⟩)] #[]) ∧ W' = W ∧ entP G ∧ Reads G (reqK k) ReqR) ∨ (e = .panicked panW ∧ W' = W ∧ ∀ ys, reqK k ys = none) := by
  rcases h.look Try.underlying66 Try.underlying24 (zeroQ_fn W) (k : Int) with ⟨s, hs, hk, v, hl, hv⟩ | ⟨hn, hl⟩
  · obtain ⟨G, e, h1, h2⟩ := tabQ_has hs hk
    rw [e] at hv
    have hv' : v = .func (Fn.func G) #[.pointer (some ⟨p, 0, none⟩)] #[] := hv
    subst hv'
    have H1 := hide h1; have H2 := hide h2
    clear h1 h2 hs hk hv e h
    go_enter Try.func23, Try.ntmps23
    go_wp2_with fail
    refine (must_yes _).mono ?_
    rintro e w1 ⟨rfl, rfl⟩
    go_wp2
    go_ret
    exact .inl ⟨G, rfl, rfl, H1.out, H2.out⟩
  · have HN := hide (tabQ_not hn)
    clear hn h
    go_enter Try.func23, Try.ntmps23
    go_wp2_with fail
    refine (must_no _).mono ?_
    rintro e w1 ⟨rfl, rfl⟩
    go_wp2
    exact ⟨rfl, .inr ⟨rfl, rfl, HN.out⟩⟩
set_option maxHeartbeats 4000000 in
theorem req_reads : Reads 11 reqP ReqR := fun W p q xs h => by
  have hmf : ∀ (fn : Fn) (first cap : Array Value) (w : World), (Instr.makeFunc fn first cap).run Try.prog w = .ok (.func fn first cap) w := fun _ _ _ _ => rfl
  have hmm := @run_makeMap Try.prog
  have hp := h.pl
  have hs := heap_alloc_new W zeroQ
  have R0 := hide (h.alloc zeroQ)
  have HN := hide (byte_reads _ p q xs R0.out.base)
  unfold zeroQ at HN R0 hs
  have HS := hide hs
  have HBY := hide h.byte
  clear hs h
  go_enter Try.func11, Try.ntmps11
  go_wp2_with fail
  refine HN.out.mono ?_
  rintro e w1 (⟨k, ys, v, hpf, rfl, hv, hr⟩ | ⟨hpf, rfl, hf⟩)
  · obtain rfl : v = .int .i64 k := hv
    have hk := byte_lt hpf HBY.out
    have hw : IntKind.u8.wrap (k : Int) = k := by rw [IntKind.wrap_u8]; omega
    have HS1 := hide (hr.keep HS.out (by omega))
    have R1 := hide (R0.out.trans hr)
    have HP1 := hide hpf
    have HT0 := hide (Tab.empty w1)
    have HZ1 := hide (lt_of_heap HS1.out)
    have R1' := hide (R1.out.alloc (.map #[] 0))
    have HS1' := hide ((Below.heap_alloc w1 (.map #[] 0) _ HZ1.out).trans HS1.out)
    clear hr hpf HN
    go_wp2_with (first
      | (refine wpList_insert_tab _ rfl _ _ _ 66 rfl _ _ Try.underlying66 Try.underlying24 w1.heap.size [] rfl 1 rfl _ rfl (methT 24 p) HT0.out steady_nil (methT_steady _ _) (by simp) (methT_at _ _ _) ?_; intro u1 T1 G1; have HT1 := hide T1; have HG1 := hide G1; clear T1 G1)
      | (refine wpList_insert_tab _ rfl _ _ _ 66 rfl _ _ Try.underlying66 Try.underlying24 w1.heap.size _ rfl 2 rfl _ rfl (methT 25 p) HT1.out (steady_snoc steady_nil (methT_steady _ _)) (methT_steady _ _) (by simp) (methT_at _ _ _) ?_; intro u2 T2 G2; have HT2 := hide T2; have HG2 := hide (HG1.out.trans G2); clear T2 G2)
      | (refine wpList_insert_tab _ rfl _ _ _ 66 rfl _ _ Try.underlying66 Try.underlying24 w1.heap.size _ rfl 3 rfl _ rfl (methT 26 p) HT2.out (steady_snoc (steady_snoc steady_nil (methT_steady _ _)) (methT_steady _ _)) (methT_steady _ _) (by simp) (methT_at _ _ _) ?_; intro u3 T3 G3; have HT3 := hide T3; have HG3 := hide (HG2.out.trans G3); clear T3 G3)
      | (refine wpList_insert_tab _ rfl _ _ _ 66 rfl _ _ Try.underlying66 Try.underlying24 w1.heap.size _ rfl 4 rfl _ rfl (methT 27 p) HT3.out (steady_snoc (steady_snoc (steady_snoc steady_nil (methT_steady _ _)) (methT_steady _ _)) (methT_steady _ _)) (methT_steady _ _) (by simp) (methT_at _ _ _) ?_; intro u4 T4 G4; have HT4 : Hid (Tab u4 w1.heap.size (tabQ p)) := T4; have HG4 := hide (HG3.out.trans G4); clear T4 G4))
    have R5 := hide (R1'.out.grown HG4.out (fun r e => by injection e with e; rw [← e]; exact R1.out.fr.size))
    have HS5 : Hid (u4.heap[W.heap.size]? = _) := hide ((HG4.out.block W.heap.size (by rw [World.size_alloc]; have := HZ1.out; omega) (fun e => by injection e with e; have := HZ1.out; omega)).trans HS1'.out)
    clear HT0 HT1 HT2 HT3 HG1 HG2 HG3
    refine (chosenQ w1.heap.size p k u4 HT4.out).mono ?_
    rintro e w2 (⟨G, rfl, rfl, hG, hR⟩ | ⟨rfl, rfl, hno⟩)
    · have HE := hG
      have HR := hide (hR w2 p q ys R5.out.base)
      unfold entP at HE
      clear hG hR
      go_wp2_with fail
      refine HR.out.mono ?_
      rintro e w3 (⟨x, zs, v, hpf, rfl, hv, hr⟩ | ⟨hpf, rfl, hf⟩)
      · obtain ⟨vu, rfl, hvu⟩ := hv
        obtain ⟨ua, uc, rfl⟩ := list_slice hvu
        have hs3 := hr.keep HS5.out (by omega)
        have hz3 := lt_of_heap hs3
        obtain ⟨a0, a1, a2, a3, a4, af⟩ := cells5 hs3
        have R6 := hide (R5.out.trans hr)
        have HVU := hide hvu
        have HP2 := hide hpf
        have HZ5 := hide R5.out.fr.size
        have HL5 := hide (lt_of_heap HS5.out)
        clear hr hpf HR hvu hs3
        go_wp2
        refine bodyPost_ret (v := .agg #[.int .u8 k, .string x.src, .string x.table, .int .i64 x.n, .slice ua x.ups.length uc]) (by simp [results, Try.results11, go_sem, World.cell?_alloc_past, hz3, a0, a1, a2, a3, a4]) rfl (.inl ⟨{ x with kind := k }, zs, _, by simp [reqP, HP1.out, HP2.out], rfl, ?_, ?_⟩)
        · have hlt := HL5.out
          refine ⟨_, rfl, ?_⟩
          exact rep_end (ListR.ok upd_ok _ _) HVU.out HZ5.out (by simp) (fun b hb hl => by have hne : b ≠ W.heap.size := (by omega); rw [Below.heap_alloc _ _ _ (by simpa using hl)]; simp only [set_other hne])
        · exact (R6.out.setc5 (Nat.le_refl _)).alloc _
      · have HF := hide (R5.out.fr.trans hf (fun _ _ e => e))
        have HN := hide hpf
        clear hf hpf
        go_wp2
        exact ⟨rfl, .inr ⟨by simp [reqP, HP1.out, HN.out], rfl, HF.out⟩⟩
    · have HN := hide (hno ys)
      clear hno
      go_wp2
      exact ⟨rfl, .inr ⟨by simp [reqP, HP1.out, HN.out], rfl, R5.out.fr⟩⟩
  · have HN := hide hpf
    have HF := hide hf.after
    clear hf hpf
    go_wp2
    exact ⟨rfl, .inr ⟨by simp [reqP, HN.out], rfl, HF.out⟩⟩
end Go.Proofs.Ythlfbpadakoamaa
/- package wire: bodyOf. -/
namespace Go.Proofs.Ythlfbpadakoamaa
open Go.RowKit

theorem bodyOf_few (a : Option Addr) (n cap : Nat) (w : World) (h : n < 4) : Calls Try.prog 18 #[.slice a n cap] w fun e w' => e = .returned (.tuple #[.slice none 0 0, .int .i64 9]) ∧ w' = w := by
  have d : ((n : Int) < 4) = True := eq_true (by omega)
  clear h
  go_enter Try.func18, Try.ntmps18
  go_wp2
  go_ret2
  exact ⟨rfl, rfl⟩
/- What bodyOf answers of four bytes or more. -/
def bodyA (q : Nat) (xs : List Nat) (V : Nat) (w' : World) (e : Ending) : Prop :=
  (65536 < V ∧ e = .returned (.tuple #[.slice none 0 0, .int .i64 3])) ∨ (V ≤ 65536 ∧ xs.length - 4 < V ∧ e = .returned (.tuple #[.slice none 0 0, .int .i64 9])) ∨
  (V ≤ 65536 ∧ V ≤ xs.length - 4 ∧ ∃ o' c', e = .returned (.tuple #[.slice (some ⟨q, o', none⟩) V c', .int .i64 0]) ∧ V ≤ c' ∧ Bs w' q o' ((xs.drop 4).take V))
theorem below_of_drew {w w' : World} (h : Below w.drew.heap.size w.drew w') : Below w.heap.size w w' := ⟨h.os, h.tape, h.output, h.size, h.block⟩
theorem Bs.drop {W : World} {q off : Nat} {xs : List Nat} (h : Bs W q off xs) (n : Nat) : Bs W q (off + n) (xs.drop n) := cells_drop h n
set_option maxHeartbeats 4000000 in
theorem bodyOf_any (q off cap x0 x1 x2 x3 : Nat) (ys : List Nat) (w : World) (hx : Bs w q off (x0 :: x1 :: x2 :: x3 :: ys)) (hb : ∀ x ∈ x0 :: x1 :: x2 :: x3 :: ys, x < 256) (hcap : ys.length + 4 ≤ cap) (hl : ys.length ≤ 1000000) :
    Calls Try.prog 18 #[.slice (some ⟨q, off, none⟩) (ys.length + 4) cap] w fun e w' => bodyA q (x0 :: x1 :: x2 :: x3 :: ys) (val4 x0 x1 x2 x3) w' e ∧ Below w.heap.size w w' := by
  have hq : q < w.heap.size := World.block_lt_of_cell? w _ (hx 0 (by simp))
  have hq4 : Bs w q off [x0, x1, x2, x3] := hx.take 4
  have HI := hide (wholeIn_any q off (ys.length + 4) cap x0 x1 x2 x3 w.drew hq4 (by omega))
  have HV := hide (fun W => value_any x0 x1 x2 x3 W (hb _ (by simp)) (hb _ (by simp)) (hb _ (by simp)) (hb _ (by simp)))
  have hV32 : val4 x0 x1 x2 x3 < 4294967296 := by
    have h0 := hb x0 (by simp); have h1 := hb x1 (by simp); have h2 := hb x2 (by simp); have h3 := hb x3 (by simp)
    unfold val4; omega
  have HBS : Hid (Bs w q (off + 4) ys) := hide (hx.drop 4)
  obtain ⟨V, hVV⟩ : ∃ V, val4 x0 x1 x2 x3 = V := ⟨_, rfl⟩
  obtain ⟨N, hN⟩ : ∃ N, ys.length = N := ⟨_, rfl⟩
  rw [hVV] at HV hV32 ⊢
  rw [hN] at HI hcap hl ⊢
  have HN := hide hN
  clear hN hVV hx hq4 hb
  have hlen : (x0 :: x1 :: x2 :: x3 :: ys).length - 4 = N := by rw [← HN.out]; simp
  have hdr : (x0 :: x1 :: x2 :: x3 :: ys).drop 4 = ys := rfl
  unfold bodyA
  rw [hlen, hdr]
  clear hlen hdr
  obtain ⟨M, hM⟩ : ∃ M, N + 4 = M := ⟨_, rfl⟩
  rw [hM] at HI hcap ⊢
  have hM4 : M - 4 = N := by omega
  have d4 : ((M : Int) < 4) = False := eq_false (by omega)
  have d5 : ((4 : Int) ≤ (M : Int)) = True := eq_true (by omega)
  have d6 : ((4 : Int) ≤ (cap : Int)) = True := eq_true (by omega)
  have w1 : IntKind.u64.wrap (V : Int) = V := by rw [IntKind.wrap_u64]; omega
  have w2 : IntKind.u64.wrap (N : Int) = N := by rw [IntKind.wrap_u64]; omega
  obtain ⟨C, hC⟩ : ∃ C, cap - 4 = C := ⟨_, rfl⟩
  have HM := hide hM
  have HCP := hide hcap
  have HC4 := hide hC
  clear hM hcap
  have e1 : ((V : Int) > 65536) = (65536 < V) := by simp; omega
  have e2 : ((V : Int) > (N : Int)) = (N < V) := by simp
  rcases (by omega : cap = 4 ∨ ¬ cap = 4) with rfl | hc
  all_goals
    rcases (by omega : 65536 < V ∨ (V ≤ 65536 ∧ N < V) ∨ (V ≤ 65536 ∧ V ≤ N)) with h1 | ⟨h1, h2⟩ | ⟨h1, h2⟩
  · have f1 : (65536 < (V : Int)) = True := eq_true (by omega)
    have H1 := hide h1
    clear e1 e2 h1
    go_enter Try.func18, Try.ntmps18
    go_wp2
    go_region_with (first
      | (go_at_call 51; refine HI.out.mono ?_; rintro e w3 ⟨rfl, hb3⟩; have B3 := hide (below_of_drew hb3); clear hb3)
      | (go_at_call 52; refine (HV.out _).mono ?_; rintro e w4 ⟨rfl, hb4⟩; have B4 := hide (B3.out.trans (hb4.mono B3.out.size)); clear hb4))
    all_goals
      go_wp2
      go_ret2
      exact ⟨.inl ⟨H1.out, rfl⟩, B4.out⟩
  · have f1 : (65536 < (V : Int)) = False := eq_false (by omega)
    have f2 : ((N : Int) < (V : Int)) = True := eq_true (by omega)
    have f3 : (N < V) = True := eq_true h2
    have H1 := hide h1; have H2 := hide h2
    clear e1 e2 h1 h2
    go_enter Try.func18, Try.ntmps18
    go_wp2
    go_region_with (first
      | (go_at_call 51; refine HI.out.mono ?_; rintro e w3 ⟨rfl, hb3⟩; have B3 := hide (below_of_drew hb3); clear hb3)
      | (go_at_call 52; refine (HV.out _).mono ?_; rintro e w4 ⟨rfl, hb4⟩; have B4 := hide (B3.out.trans (hb4.mono B3.out.size)); clear hb4))
    all_goals
      go_wp2
      go_ret2
      exact ⟨.inr (.inl ⟨H1.out, H2.out, rfl⟩), B4.out⟩
  · have f1 : (65536 < (V : Int)) = False := eq_false (by omega)
    have f2 : ((N : Int) < (V : Int)) = False := eq_false (by omega)
    have f3 : (N < V) = False := eq_false (by omega)
    have f4 : ((V : Int) ≤ (C : Int)) = True := eq_true (by have := HM.out; have := HCP.out; omega)
    have H1 := hide h1; have H2 := hide h2
    have H4 : Hid (V ≤ C) := hide (by have := HM.out; have := HCP.out; omega)
    clear e1 e2 h1 h2
    go_enter Try.func18, Try.ntmps18
    go_wp2
    go_region_with (first
      | (go_at_call 51; refine HI.out.mono ?_; rintro e w3 ⟨rfl, hb3⟩; have B3 := hide (below_of_drew hb3); clear hb3)
      | (go_at_call 52; refine (HV.out _).mono ?_; rintro e w4 ⟨rfl, hb4⟩; have B4 := hide (B3.out.trans (hb4.mono B3.out.size)); clear hb4))
    all_goals
      go_wp2
      go_ret2
      exact ⟨.inr (.inr ⟨H1.out, H2.out, _, _, rfl, H4.out, fun i hi => by have := H2.out; have := HM.out; have := HCP.out; simp at hi; omega⟩), B4.out⟩
  · have f1 : (65536 < (V : Int)) = True := eq_true (by omega)
    have H1 := hide h1
    clear e1 e2 h1
    go_enter Try.func18, Try.ntmps18
    go_wp2
    go_region_with (first
      | (go_at_call 51; refine HI.out.mono ?_; rintro e w3 ⟨rfl, hb3⟩; have B3 := hide (below_of_drew hb3); clear hb3)
      | (go_at_call 52; refine (HV.out _).mono ?_; rintro e w4 ⟨rfl, hb4⟩; have B4 := hide (B3.out.trans (hb4.mono B3.out.size)); clear hb4))
    all_goals
      go_wp2
      go_ret2
      exact ⟨.inl ⟨H1.out, rfl⟩, B4.out⟩
  · have f1 : (65536 < (V : Int)) = False := eq_false (by omega)
    have f2 : ((N : Int) < (V : Int)) = True := eq_true (by omega)
    have f3 : (N < V) = True := eq_true h2
    have H1 := hide h1; have H2 := hide h2
    clear e1 e2 h1 h2
    go_enter Try.func18, Try.ntmps18
    go_wp2
    go_region_with (first
      | (go_at_call 51; refine HI.out.mono ?_; rintro e w3 ⟨rfl, hb3⟩; have B3 := hide (below_of_drew hb3); clear hb3)
      | (go_at_call 52; refine (HV.out _).mono ?_; rintro e w4 ⟨rfl, hb4⟩; have B4 := hide (B3.out.trans (hb4.mono B3.out.size)); clear hb4))
    all_goals
      go_wp2
      go_ret2
      exact ⟨.inr (.inl ⟨H1.out, H2.out, rfl⟩), B4.out⟩
  · have f1 : (65536 < (V : Int)) = False := eq_false (by omega)
    have f2 : ((N : Int) < (V : Int)) = False := eq_false (by omega)
    have f3 : (N < V) = False := eq_false (by omega)
    have f4 : ((V : Int) ≤ (C : Int)) = True := eq_true (by have := HM.out; have := HCP.out; omega)
    have H1 := hide h1; have H2 := hide h2
    have H4 : Hid (V ≤ C) := hide (by have := HM.out; have := HCP.out; omega)
    clear e1 e2 h1 h2
    go_enter Try.func18, Try.ntmps18
    go_wp2
    go_region_with (first
      | (go_at_call 51; refine HI.out.mono ?_; rintro e w3 ⟨rfl, hb3⟩; have B3 := hide (below_of_drew hb3); clear hb3)
      | (go_at_call 52; refine (HV.out _).mono ?_; rintro e w4 ⟨rfl, hb4⟩; have B4 := hide (B3.out.trans (hb4.mono B3.out.size)); clear hb4))
    all_goals
      go_wp2
      go_ret2
      exact ⟨.inr (.inr ⟨H1.out, H2.out, _, _, rfl, H4.out, Bs.fr (HBS.out.take V) (E := fun _ => False) (Fr.ofBelow B4.out) (by simp)⟩), B4.out⟩
end Go.Proofs.Ythlfbpadakoamaa
/- package wire: decode's closure, caught. -/
namespace Go.Proofs.Ythlfbpadakoamaa
open Go.RowKit

theorem Rr.make {W : World} {q o c : Nat} {xs : List Nat} {z : Obj} (hb : Bs W q o xs) (hc : xs.length ≤ c) (hl : xs.length ≤ 65536) (hx : ∀ x ∈ xs, x < 256) (hq : q < W.heap.size) (t : TypeId) :
    Rr ((W.alloc z).alloc (.cells #[.slice (some ⟨q, o, none⟩) xs.length c] t)) ((W.alloc z).alloc (.cells #[.slice (some ⟨q, o, none⟩) xs.length c] t)) (W.heap.size + 1) q xs := by
  have h := heap_alloc_new (W.alloc z) (.cells #[.slice (some ⟨q, o, none⟩) xs.length c] t)
  rw [World.size_alloc] at h
  have hB : Below W.heap.size W ((W.alloc z).alloc (.cells #[.slice (some ⟨q, o, none⟩) xs.length c] t)) := ((Below.refl _ W).alloc (Nat.le_refl _) _).alloc (by simp) _
  refine ⟨Fr.refl _ _, by omega, by simp, by simp; omega, ⟨o, c, ?_, hc, ?_⟩, ?_, hl, hx⟩
  · unfold World.cell?; simp only [h]; rfl
  · exact Bs.fr hb (E := fun _ => False) (Fr.ofBelow hB) (by simp)
  · unfold World.frozen?; simp only [h]; simp
/- What a body is read as: all of it, or nothing. -/
def Whole {α : Type} (pf : Ps α) (rep : World → (Nat → Prop) → Value → α → Prop) (W : World) (xs : List Nat) (e : Ending) (W' : World) : Prop :=
  ((∃ x v, pf xs = some (x, []) ∧ e = .returned v ∧ rep W' (Bn W W') v x) ∨ ((∀ x, pf xs ≠ some (x, [])) ∧ e = .panicked panW)) ∧ Below W.heap.size W W'
theorem cell1 {W : World} {s : Nat} {a : Value} {t : TypeId} (h : W.heap[s]? = some (.cells #[a] t (0, 0))) : W.cell? ⟨s, 0, none⟩ = some a ∧ ∀ o, W.frozen? ⟨s, o, none⟩ = false := by
  refine ⟨?_, fun o => ?_⟩
  all_goals first | (unfold World.cell?; simp only [h]; rfl) | (unfold World.frozen?; simp only [h]; simp)
theorem ent_request : entP 11 := enters_of Try.func11 (by kernel_rfl) rfl
set_option maxHeartbeats 4000000 in
theorem decode1Q (W : World) (bb fb q o c : Nat) (xs : List Nat) (hb : W.heap[bb]? = some (.cells #[.slice (some ⟨q, o, none⟩) xs.length c] 22 (0, 0))) (hf : W.heap[fb]? = some (.cells #[.func (Fn.func 11) #[] #[]] 45 (0, 0)))
    (hx : Bs W q o xs) (hc : xs.length ≤ c) (hl : xs.length ≤ 65536) (h256 : ∀ x ∈ xs, x < 256) (hq : q < W.heap.size) :
    Calls Try.prog 20 #[.pointer (some ⟨bb, 0, none⟩), .pointer (some ⟨fb, 0, none⟩)] W fun e W' => Whole reqP ReqR W xs e W' := by
  have hbl := lt_of_heap hb
  have hfl := lt_of_heap hf
  obtain ⟨c0, _⟩ := cell1 hb
  obtain ⟨f0, _⟩ := cell1 hf
  obtain ⟨O, hO⟩ : ∃ O, O = Obj.cells #[.slice (some ⟨q, o, none⟩) xs.length c] 62 := ⟨_, rfl⟩
  have R0 := hide (Rr.make (z := zeroQ) hx hc hl h256 hq 62)
  have HQ := hide (req_reads _ _ q xs R0.out)
  have hs : ((W.alloc zeroQ).alloc (.cells #[.slice (some ⟨q, o, none⟩) xs.length c] 62)).heap[W.heap.size]? = some zeroQ := (Below.heap_alloc _ _ _ (by simp)).trans (heap_alloc_new W _)
  have HB0 : Hid (Below W.heap.size W ((W.alloc zeroQ).alloc (.cells #[.slice (some ⟨q, o, none⟩) xs.length c] 62))) := hide (((Below.refl _ W).alloc (Nat.le_refl _) _).alloc (by simp) _)
  have hent := ent_request
  unfold entP at hent
  unfold zeroQ at R0 HQ hs HB0
  have HS := hide hs
  clear hb hf hx hs hO O
  go_enter Try.func20, Try.ntmps20
  go_wp2_with fail
  refine HQ.out.mono ?_
  rintro e w1 (⟨x, ys, v, hpf, rfl, hv, hr⟩ | ⟨hpf, rfl, hf⟩)
  · obtain ⟨vu, rfl, hvu⟩ := hv
    obtain ⟨ua, uc, rfl⟩ := list_slice hvu
    have hs1 := hr.keep HS.out (by omega)
    have hz1 := lt_of_heap hs1
    obtain ⟨a0, a1, a2, a3, a4, af⟩ := cells5 hs1
    obtain ⟨o1, c1, hc1, _, _⟩ := hr.cell
    have hpz : W.heap.size + 1 < w1.heap.size := Nat.lt_of_lt_of_le hr.pl hr.fr.size
    have HBL : Hid (Below W.heap.size W w1) := hide (HB0.out.trans (hr.fr.below (B := W.heap.size) (fun b e => by omega) HB0.out.size))
    have HVU := hide hvu
    have HP := hide hpf
    clear hr hpf HQ hvu hs1
    cases ys with
    | nil =>
      go_wp2_with fail
      refine (must_yes _).mono ?_
      rintro e w2 ⟨rfl, rfl⟩
      go_wp2
      refine bodyPost_ret (v := .agg #[.int .u8 x.kind, .string x.src, .string x.table, .int .i64 x.n, .slice ua x.ups.length uc]) (by simp [results, Try.results20, go_sem, World.cell?_alloc_past, hz1, a0, a1, a2, a3, a4]) rfl ⟨.inl ⟨x, _, HP.out, rfl, ?_⟩, ?_⟩
      · refine ⟨_, rfl, ?_⟩
        refine rep_end (ListR.ok upd_ok _ _) HVU.out (by simp; omega) (by simp) (fun b hb hl => ?_)
        have hne : b ≠ W.heap.size := by simp at hb; omega
        rw [Below.heap_alloc _ _ _ (by simpa using hl)]
        simp only [set_other hne]
      · exact (((((HBL.out.setCell (Nat.le_refl _) _).setCell (Nat.le_refl _) _).setCell (Nat.le_refl _) _).setCell (Nat.le_refl _) _).setCell (Nat.le_refl _) _).alloc (by simp; omega) _
    | cons y ys =>
      obtain ⟨L, hL⟩ : ∃ L, (y :: ys).length = L := ⟨_, rfl⟩
      rw [hL] at hc1
      have e0 : ((L : Int) == 0) = false := by rw [← hL]; simp; omega
      clear hL
      go_wp2_with fail
      refine (must_no _).mono ?_
      rintro e w2 ⟨rfl, rfl⟩
      go_wp2
      exact ⟨rfl, .inr ⟨fun x' h => by rw [HP.out] at h; simp at h, rfl⟩, HBL.out.alloc (by omega) _⟩
  · have HN := hide hpf
    have HBL : Hid (Below W.heap.size W w1) := hide (HB0.out.trans (hf.below (B := W.heap.size) (fun b e => by omega) HB0.out.size))
    clear hpf hf
    go_wp2
    exact ⟨rfl, .inr ⟨fun x' h => (by rw [HN.out] at h; cases h), rfl⟩, HBL.out⟩
/- caught's own closure. -/
theorem catchQ_panic (p : Addr) (x : Bool) (older : List PanicEntry) (w : World) (hc : w.cell? p = some (.bool x)) (hz : w.frozen? p = false) :
    CallsD Try.prog 53 #[.pointer (some p)] (.panicking ({ v := .iface 97 (.agg #[]), recovered := false } :: older)) w fun e u' w' =>
      e = .returned (.tuple #[]) ∧ u' = .panicking ({ v := .iface 97 (.agg #[]), recovered := true } :: older) ∧ w' = w.setCell p (.bool false) := by
  refine callsD_of_wpS Try.func53 rfl fun c₀ cs hu => ?_
  apply wpS_seq
  apply wpS_region
  simp [wpOpsS, go_sem, recoverD, hu, Try.ntmps53, Exit.thenS]
  refine wpS_cond (t := true) (by simp [Act.eval, Array.replicate]) ?_
  simp only [if_true]
  apply wpS_region
  simp [wpOpsS, go_sem, hc, hz, bodyPostS, results, Try.results53]
theorem catchQ_idle (p : Addr) (w : World) :
    CallsD Try.prog 53 #[.pointer (some p)] .returning w fun e u' w' => e = .returned (.tuple #[]) ∧ u' = .returning ∧ w' = w := by
  refine callsD_of_wpS Try.func53 rfl fun c₀ cs hu => ?_
  apply wpS_seq
  apply wpS_region
  simp [wpOpsS, go_sem, recoverD, hu, Try.ntmps53, Exit.thenS]
  refine wpS_cond (t := false) (by simp [Act.eval, Array.replicate]) ?_
  simp only [Bool.false_eq_true, if_false]
  refine wpS_of_wp (wp_skip ?_)
  cases c₀
  simp_all [bodyPostS, results, Try.results53]
end Go.Proofs.Ythlfbpadakoamaa
/- package wire: caught, decode, DecodeRequest. -/
namespace Go.Proofs.Ythlfbpadakoamaa
open Go.RowKit

def zeroQv : Value := .agg #[.int .u8 0, .string ⟨#[]⟩, .string ⟨#[]⟩, .int .i64 0, .slice none 0 0]
def zeroQA : ReqA := ⟨0, ByteArray.empty, ByteArray.empty, 0, []⟩
theorem zeroQ_rep (W : World) (X : Nat → Prop) : ReqR W X zeroQv zeroQA := ⟨_, rfl, list_nil _ _ _ _ _⟩
set_option maxHeartbeats 4000000 in
theorem caughtQ (W : World) (bb fb q o c : Nat) (xs : List Nat) (hb : W.heap[bb]? = some (.cells #[.slice (some ⟨q, o, none⟩) xs.length c] 22 (0, 0))) (hf : W.heap[fb]? = some (.cells #[.func (Fn.func 11) #[] #[]] 45 (0, 0)))
    (hx : Bs W q o xs) (hc : xs.length ≤ c) (hl : xs.length ≤ 65536) (h256 : ∀ x ∈ xs, x < 256) (hq : q < W.heap.size) :
    Calls Try.prog 19 #[.func (Fn.func 20) #[] #[.pointer (some ⟨bb, 0, none⟩), .pointer (some ⟨fb, 0, none⟩)]] W fun e W' =>
      ((∃ x v, reqP xs = some (x, []) ∧ e = .returned (.tuple #[v, .bool true]) ∧ ReqR W' (Bn W W') v x) ∨ ((∀ x, reqP xs ≠ some (x, [])) ∧ e = .returned (.tuple #[zeroQv, .bool false]))) ∧ Below W.heap.size W W' := by
  have hmf : ∀ (fn : Fn) (first cap : Array Value) (w : World), (Instr.makeFunc fn first cap).run Try.prog w = .ok (.func fn first cap) w := fun _ _ _ _ => rfl
  have hbl := lt_of_heap hb
  have hfl := lt_of_heap hf
  have HB0 : Hid (Below W.heap.size W ((W.alloc zeroQ).alloc (.cells #[.bool false] 4))) := hide (((Below.refl _ W).alloc (Nat.le_refl _) _).alloc (by simp) _)
  have HD := hide (decode1Q ((W.alloc zeroQ).alloc (.cells #[.bool false] 4)) bb fb q o c xs ((HB0.out.block _ hbl).trans hb) ((HB0.out.block _ hfl).trans hf) (Bs.fr hx (E := fun _ => False) (Fr.ofBelow HB0.out) (by simp)) hc hl h256 (by simp; omega))
  have hs : ((W.alloc zeroQ).alloc (.cells #[.bool false] 4)).heap[W.heap.size]? = some zeroQ := (Below.heap_alloc _ _ _ (by simp)).trans (heap_alloc_new W _)
  have ht := heap_alloc_new (W.alloc zeroQ) (.cells #[.bool false] 4)
  rw [World.size_alloc] at ht
  unfold zeroQ at HB0 HD hs ht
  unfold zeroQv
  have HS := hide hs; have HT := hide ht
  clear hb hf hx hs ht hc hl h256 hq
  go_enter_defers Try.func19, Try.ntmps19
  go_wp2_with fail
  refine HD.out.mono ?_
  rintro e w1 ⟨⟨x, v, hpf, rfl, hv⟩ | ⟨hno, rfl⟩, hb⟩
  · obtain ⟨vu, rfl, hvu⟩ := hv
    obtain ⟨ua, uc, rfl⟩ := list_slice hvu
    have hs1 := (hb.block _ (lt_of_heap HS.out)).trans HS.out
    have ht1 := (hb.block _ (lt_of_heap HT.out)).trans HT.out
    obtain ⟨a0, a1, a2, a3, a4, af⟩ := cells5 hs1
    obtain ⟨b0, bf⟩ := cell1 ht1
    have HBL := hide (HB0.out.trans (hb.mono HB0.out.size))
    have HVU := hide hvu
    have HP := hide hpf
    clear hb hpf hvu hs1 ht1 HD
    go_wp2
    refine leaves_cons (f := 53) (args := #[.pointer (some ⟨W.heap.size + 1, 0, none⟩)]) (by simp) (by simp [go_sem]) ?_
    refine (catchQ_idle _ _).mono ?_
    rintro e u' w2 ⟨rfl, rfl, rfl⟩
    refine ⟨.tuple #[.agg #[.int .u8 x.kind, .string x.src, .string x.table, .int .i64 x.n, .slice ua x.ups.length uc], .bool true], by simp [results, Try.results19, go_sem, a0, a1, a2, a3, a4, b0], .inl ⟨x, _, HP.out, rfl, ?_⟩, ?_⟩
    · refine ⟨_, rfl, ?_⟩
      refine rep_end (ListR.ok upd_ok _ _) HVU.out (by simp; omega) (by simp) (fun b hb hl => ?_)
      have hne : b ≠ W.heap.size := by simp at hb; omega
      have hne1 : b ≠ W.heap.size + 1 := by simp at hb; omega
      simp only [set_other hne, set_other hne1]
    · exact (((((HBL.out.setCell (Nat.le_refl _) _).setCell (Nat.le_refl _) _).setCell (Nat.le_refl _) _).setCell (Nat.le_refl _) _).setCell (Nat.le_refl _) _).setCell (by simp) _
  · have hs1 := (hb.block _ (lt_of_heap HS.out)).trans HS.out
    have ht1 := (hb.block _ (lt_of_heap HT.out)).trans HT.out
    obtain ⟨a0, a1, a2, a3, a4, af⟩ := cells5 hs1
    obtain ⟨b0, bf⟩ := cell1 ht1
    have HBL := hide (HB0.out.trans (hb.mono HB0.out.size))
    have HN := hide hno
    clear hb hno hs1 ht1 HD
    go_wp2
    refine leaves_cons (f := 53) (args := #[.pointer (some ⟨W.heap.size + 1, 0, none⟩)]) (by simp) (by simp [go_sem]) ?_
    refine (catchQ_panic ⟨W.heap.size + 1, 0, none⟩ false [] _ b0 (bf 0)).mono ?_
    rintro e u' w2 ⟨rfl, rfl, rfl⟩
    refine ⟨.tuple #[.agg #[.int .u8 0, .string ⟨#[]⟩, .string ⟨#[]⟩, .int .i64 0, .slice none 0 0], .bool false], by simp [results, Try.results19, go_sem, a0, a1, a2, a3, a4, b0], .inr ⟨HN.out, rfl⟩, HBL.out.setCell (by simp) _⟩
end Go.Proofs.Ythlfbpadakoamaa
