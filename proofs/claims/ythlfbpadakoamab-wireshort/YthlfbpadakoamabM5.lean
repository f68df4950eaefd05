/- Pieces of the proof: WEb, WLd, WU, WTab, WV, WW, WLe. -/
import Derived.Test.YthlfbpadakoamabM4
import Derived.Test.YthlfbpadakoamabM2
import Derived.MapFrom
import Derived.Maps.Own
import Derived.Maps.OwnOps
import Derived.Shelf.Abstract
import Derived.Laws.EntriesVeiled
/- package wire: an entry, as it is read. -/
namespace Go.Proofs.Ythlfbpadakoamab
open Go.RowKit

theorem rep_fr {α : Type} {rep : World → (Nat → Prop) → Value → α → Prop} (hok : RepOk rep) {A w w' : World} {p : Nat} {v : Value} {x : α} (h : rep w (Bn A w) v x) (hf : Fr (· = p) w w') (hp : p < A.heap.size) : rep w' (Bn A w') v x :=
  hok.mono (hok.frame h hf.size (fun b k hl => hf.block b hl (by have := k.1; omega))) (fun b k => ⟨k.1, by have := k.2; have := hf.size; omega⟩)
set_option maxHeartbeats 2000000 in
theorem entry_reads : Reads 33 entryP EntryR := fun W p q xs h => by
  have hmf : ∀ (fn : Fn) (first cap : Array Value) (w : World), (Instr.makeFunc fn first cap).run Try.prog w = .ok (.func fn first cap) w := fun _ _ _ _ => rfl
  have hp := h.pl
  have hs := heap_alloc_new W zeroE
  have R0 := hide (h.alloc zeroE)
  have HN := hide (byte_reads _ p q xs R0.out.base)
  unfold zeroE at HN R0 hs
  have HS := hide hs
  have HBY := hide h.byte
  clear hs h
  go_enter Try.func33, Try.ntmps33
  go_wp2_with fail
  refine HN.out.mono ?_
  rintro e w1 (⟨n, ys, v, hpf, rfl, hv, hr⟩ | ⟨hpf, rfl, hf⟩)
  · obtain rfl : v = .int .i64 n := hv
    have hn := byte_lt hpf HBY.out
    have HS1 := hide (hr.keep HS.out (by omega))
    have R1 := hide (R0.out.trans hr)
    have HL := hide (listOf_match n (by omega) w1 p q ys R1.out.base)
    have HP1 := hide hpf
    clear hr hpf HN
    go_wp2_with fail
    refine HL.out.mono ?_
    rintro e w2 (⟨ms, zs, v, hpf, rfl, hv, hr⟩ | ⟨hpf, rfl, hf⟩)
    · obtain ⟨a, cap, rfl⟩ := list_slice hv
      have HS2 := hide (hr.keep HS1.out (by omega))
      have R2 := hide (R1.out.trans hr)
      have HW := hide (whole_reads w2 p q zs R2.out.base)
      have HV2 := hide hv
      have HP2 := hide hpf
      clear hr hpf HL hv
      go_wp2_with fail
      refine HW.out.mono ?_
      rintro e w3 (⟨pr, us, v, hpf, rfl, hv, hr⟩ | ⟨hpf, rfl, hf⟩)
      · obtain rfl : v = .int .i64 pr := hv
        have HS3 := hide (hr.keep HS2.out (by omega))
        have R3 := hide (R2.out.trans hr)
        have hp1 : p < w1.heap.size := Nat.lt_of_lt_of_le hp R1.out.fr.size
        have HV3 := hide (rep_fr (ListR.ok match_ok _ _) HV2.out hr.fr hp1)
        have HA := hide (action_reads w3 p q us R3.out.base)
        have HP3 := hide hpf
        clear hr hpf HW
        go_wp2_with fail
        refine HA.out.mono ?_
        rintro e w4 (⟨x, ts, v, hpf, rfl, hv, hr⟩ | ⟨hpf, rfl, hf⟩)
        · obtain ⟨va, vb, rfl, hva, hvb⟩ := hv
          obtain ⟨ma, mc, rfl⟩ := list_slice hva
          obtain ⟨na, nc, rfl⟩ := list_slice hvb
          have hs4 := hr.keep HS3.out (by omega)
          have hz4 := lt_of_heap hs4
          obtain ⟨a0, a1, a2, a3, af⟩ := cells4 hs4
          have HS4 := hide hs4
          have R4 := hide (R3.out.trans hr)
          have HV4 := hide (rep_fr (ListR.ok match_ok _ _) HV3.out hr.fr hp1)
          have HVB := hide hvb
          have HP4 := hide hpf
          have HZ1 := hide R1.out.fr.size
          have HZ3 := hide R3.out.fr.size
          have HL1 := hide (lt_of_heap HS1.out)
          have HL3 := hide (lt_of_heap HS3.out)
          have H44 := hide hr.fr.size
          clear hr hpf HA hva hvb hs4
          go_wp2
          refine bodyPost_ret (v := .agg #[.slice a ms.length cap, .int .i64 pr, .string x.act, .slice na x.args.length nc]) (by simp [results, Try.results33, go_sem, World.cell?_alloc_past, hz4, a0, a1, a2, a3]) rfl (.inl ⟨⟨ms, pr, x.act, x.args⟩, ts, _, by simp [entryP, listP, HP1.out, HP2.out, HP3.out, HP4.out], rfl, ?_, ?_⟩)
          · have z1 := HZ1.out; have z3 := HZ3.out; have l1 := HL1.out; have l3 := HL3.out
            refine ⟨_, _, rfl, ?_, ?_⟩
            · refine rep_end (ListR.ok match_ok _ _) HV4.out z1 (by simp) (fun b hb hl => ?_)
              have hne : b ≠ W.heap.size := by omega
              rw [Below.heap_alloc _ _ _ (by simpa using hl)]
              simp only [set_other hne]
            · refine rep_end (ListR.ok bits_ok _ _) HVB.out z3 (by simp) (fun b hb hl => ?_)
              have hne : b ≠ W.heap.size := by omega
              rw [Below.heap_alloc _ _ _ (by simpa using hl)]
              simp only [set_other hne]
          · exact ((((R4.out.setc (Nat.le_refl _)).setc (Nat.le_refl _)).setc (Nat.le_refl _)).setc (Nat.le_refl _)).alloc _
        · have HF := hide (R3.out.fr.trans hf (fun _ _ e => e))
          have HN := hide hpf
          clear hf hpf
          go_wp2
          exact ⟨rfl, .inr ⟨by simp [entryP, listP, HP1.out, HP2.out, HP3.out, HN.out], rfl, HF.out⟩⟩
      · have HF := hide (R2.out.fr.trans hf (fun _ _ e => e))
        have HN := hide hpf
        clear hf hpf
        go_wp2
        exact ⟨rfl, .inr ⟨by simp [entryP, listP, HP1.out, HP2.out, HN.out], rfl, HF.out⟩⟩
    · have HF := hide (R1.out.fr.trans hf (fun _ _ e => e))
      have HN := hide hpf
      clear hf hpf
      go_wp2
      exact ⟨rfl, .inr ⟨by simp [entryP, listP, HP1.out, HN.out], rfl, HF.out⟩⟩
  · have HN := hide hpf
    have HF := hide hf.after
    clear hf hpf
    go_wp2
    exact ⟨rfl, .inr ⟨by simp [entryP, listP, HN.out], rfl, HF.out⟩⟩
end Go.Proofs.Ythlfbpadakoamab
/- package wire: a list that is read. -/
namespace Go.Proofs.Ythlfbpadakoamab
open Go.RowKit

theorem info_entry : (Try.prog.info? 74).map (fun i => (i.zero, i.size, i.bytes)) = some (some (.agg #[.slice none 0 0, .int .i64 0, .string ⟨#[]⟩, .slice none 0 0]), 4, 72) := by kernel_rfl
set_option maxHeartbeats 2000000 in
theorem listOf_entry (n : Nat) (hn : n ≤ 65535) (W0 : World) (p q : Nat) (xs : List Nat) (h : Rr W0 W0 p q xs) :
    Calls Try.prog 31 #[.int .i64 n, .func (Fn.func 33) #[.pointer (some ⟨p, 0, none⟩)] #[]] W0 fun e W' =>
      (∃ l ys v, manyP entryP n xs = some (l, ys) ∧ e = .returned v ∧ ListR EntryR mkAgg 4 W' (Bn W0 W') v l ∧ Rr W0 W' p q ys) ∨ (manyP entryP n xs = none ∧ e = .panicked panW ∧ Fr (· = p) W0 W') := by
  have hz : p < W0.heap.size := h.pl
  have HS := hide (Ls.start (rep := EntryR) (mk := mkAgg) (K := 4) (e := 74) (f := entryP) h)
  obtain ⟨i0, hi0, hz0, hz1, hz2⟩ := info_parts info_entry
  have HG := hide entry_reads
  clear h
  go_enter Try.func31, Try.ntmps31
  go_wp2
  go_loopw [5, 7] (fun v i wr => ∃ (k : Nat) (l : List _) (ys : List Nat) (css : List (List Value)), k ≤ n ∧ i = .int .i64 k ∧ Ls EntryR mkAgg 4 74 entryP W0 wr p q xs k v l ys css) (fun _ i _ => n - (intOf i).toNat)
  case atStart => exact ⟨0, [], xs, [], Nat.zero_le _, rfl, HS.out⟩
  case round =>
    obtain ⟨k, l, ys, css, hk, rfl, hL⟩ := hrel
    have L0 := hide hL
    clear hL
    by_cases hlt : k < n
    · have HC := hide (HG.out wr p q ys L0.out.rr.base)
      go_wp2_with fail
      refine HC.out.mono ?_
      rintro e w1 (⟨x, zs, u, hpf, rfl, hu, hr⟩ | ⟨hpf, rfl, hf⟩)
      · have HU := hide hu
        obtain ⟨va, vb, rfl, hva, hvb⟩ := hu
        obtain ⟨ma, mc, rfl⟩ := list_slice hva
        obtain ⟨na, nc, rfl⟩ := list_slice hvb
        clear hva hvb
        have HP := hide hpf
        have R1 := hide hr
        clear hpf hr
        go_wp2_with (at_builtin; refine wpList_append_own_at _ rfl _ _ 32 rfl W0.heap.size 74 i0 (.agg #[.slice none 0 0, .int .i64 0, .string ⟨#[]⟩, .slice none 0 0]) 4 72 Try.underlying32 hi0 hz0 hz1 hz2 rfl (by decide) _ k css.flatten rfl (own_alloc (own_fr L0.out.own R1.out.fr hz) _) ⟨w1.heap.size, 0, none⟩ 1 1 [.slice ma x.ms.length mc, .int .i64 x.prio, .string x.act, .slice na x.args.length nc] rfl rfl (cells_new _ _ _) (by simp [Value.oneCell']) (by unfold maxLen; omega) (by omega) (by have := L0.out.rr.fr.size; have := R1.out.fr.size; simp; omega) ?_; intro v2 w2 O2 G2 _ K2; have L2 := hide (L0.out.step entry_ok (cs := [.slice ma x.ms.length mc, .int .i64 x.prio, .string x.act, .slice na x.args.length nc]) HP.out R1.out HU.out rfl O2 G2 K2); clear O2 G2 K2)
        go_roundw
        case rel => exact ⟨k + 1, _, _, _, by omega, by go_num, L2.out⟩
        case measure => simp [intOf]; omega
      · have HN := hide (many_stuck L0.out.pf hpf n hlt)
        have HF := hide (L0.out.rr.fr.trans hf (fun _ _ e => e))
        clear hpf hf
        go_wp2
        exact ⟨rfl, .inr ⟨HN.out, rfl, HF.out⟩⟩
    · obtain rfl : k = n := by omega
      go_wp2
      go_ret
      exact .inl ⟨l, ys, _, L0.out.pf, rfl, L0.out.done entry_ok, L0.out.rr⟩
end Go.Proofs.Ythlfbpadakoamab
/- package wire: an update, as it is read. -/
namespace Go.Proofs.Ythlfbpadakoamab
open Go.RowKit

def UpdR (W : World) (X : Nat → Prop) (v : Value) (x : UpdA) : Prop := ∃ va vb vp, v = .agg #[.int .u8 x.kind, .string x.table, va, .int .i64 x.entry.prio, .string x.entry.act, vb, .int .i64 x.n, vp] ∧ ListR MatchR mkAgg 7 W X va x.entry.ms ∧ ListR BitsR mkAgg 3 W X vb x.entry.args ∧ ListR IntR mkOne 1 W X vp x.ports
theorem upd_ok : RepOk UpdR where
  mono := fun ⟨va, vb, vp, e, h1, h2, h3⟩ hm => ⟨va, vb, vp, e, (ListR.ok match_ok _ _).mono h1 hm, (ListR.ok bits_ok _ _).mono h2 hm, (ListR.ok int_ok _ _).mono h3 hm⟩
  frame := fun ⟨va, vb, vp, e, h1, h2, h3⟩ hs hf => ⟨va, vb, vp, e, (ListR.ok match_ok _ _).frame h1 hs hf, (ListR.ok bits_ok _ _).frame h2 hs hf, (ListR.ok int_ok _ _).frame h3 hs hf⟩
theorem cells8 {W : World} {s : Nat} {a b c d e f g h' : Value} {t : TypeId} (h : W.heap[s]? = some (.cells #[a, b, c, d, e, f, g, h'] t (0, 0))) : W.cell? ⟨s, 0, none⟩ = some a ∧ W.cell? ⟨s, 1, none⟩ = some b ∧ W.cell? ⟨s, 2, none⟩ = some c ∧ W.cell? ⟨s, 3, none⟩ = some d ∧ W.cell? ⟨s, 4, none⟩ = some e ∧ W.cell? ⟨s, 5, none⟩ = some f ∧ W.cell? ⟨s, 6, none⟩ = some g ∧ W.cell? ⟨s, 7, none⟩ = some h' ∧ ∀ o, W.frozen? ⟨s, o, none⟩ = false := by
  refine ⟨?_, ?_, ?_, ?_, ?_, ?_, ?_, ?_, fun o => ?_⟩
  all_goals first | (unfold World.cell?; simp only [h]; rfl) | (unfold World.frozen?; simp only [h]; simp)
def zeroU : Obj := .cells #[.int .u8 0, .string ⟨#[]⟩, .slice none 0 0, .int .i64 0, .string ⟨#[]⟩, .slice none 0 0, .int .i64 0, .slice none 0 0] 104
set_option maxHeartbeats 2000000 in
theorem change_reads : Reads 79 changeP UpdR := fun W p q xs h => by
  have hp := h.pl
  have hs := heap_alloc_new W zeroU
  have R0 := hide (h.alloc zeroU)
  have HN := hide (name_reads _ p q xs R0.out.base)
  unfold zeroU at HN R0 hs
  have HS := hide hs
  clear hs h
  go_enter Try.func79, Try.ntmps79
  go_wp2_with fail
  refine HN.out.mono ?_
  rintro e w1 (⟨tb, ys, v, hpf, rfl, hv, hr⟩ | ⟨hpf, rfl, hf⟩)
  · obtain rfl : v = .string tb := hv
    have HS1 := hide (hr.keep HS.out (by omega))
    have R1 := hide (R0.out.trans hr)
    have HB := hide (entry_reads _ p q ys R1.out.base)
    have HP1 := hide hpf
    clear hr hpf HN
    go_wp2_with fail
    refine HB.out.mono ?_
    rintro e w2 (⟨x, zs, v, hpf, rfl, hv, hr⟩ | ⟨hpf, rfl, hf⟩)
    · obtain ⟨va, vb, rfl, hva, hvb⟩ := hv
      obtain ⟨ma, mc, rfl⟩ := list_slice hva
      obtain ⟨na, nc, rfl⟩ := list_slice hvb
      obtain ⟨a0, a1, a2, a3, a4, a5, a6, a7, af⟩ := cells8 (hr.keep HS1.out (by omega))
      have R2 := hide (R1.out.trans hr)
      have HVA := hide hva; have HVB := hide hvb
      have HP2 := hide hpf
      have HZ := hide R1.out.fr.size
      have HLT := hide (lt_of_heap HS1.out)
      clear hr hpf HB hva hvb
      go_wp2
      refine bodyPost_ret (v := .agg #[.int .u8 0, .string tb, .slice ma x.ms.length mc, .int .i64 x.prio, .string x.act, .slice na x.args.length nc, .int .i64 0, .slice none 0 0]) (by simp [results, Try.results79, go_sem, a0, a1, a2, a3, a4, a5, a6, a7]) rfl (.inl ⟨⟨0, tb, x, 0, []⟩, zs, _, by simp [changeP, HP1.out, HP2.out], rfl, ?_, ?_⟩)
      · have hlt := HLT.out
        refine ⟨_, _, _, rfl, ?_, ?_, list_nil _ _ _ _ _⟩
        · exact rep_end (ListR.ok match_ok _ _) HVA.out HZ.out (by simp) (fun b hb _ => by have hne : b ≠ W.heap.size := (by omega); simp only [set_other hne])
        · exact rep_end (ListR.ok bits_ok _ _) HVB.out HZ.out (by simp) (fun b hb _ => by have hne : b ≠ W.heap.size := (by omega); simp only [set_other hne])
      · exact (((((((R2.out.setc (Nat.le_refl _)).setc (Nat.le_refl _)).setc (Nat.le_refl _)).setc (Nat.le_refl _)).setc (Nat.le_refl _)).setc (Nat.le_refl _)).setc (Nat.le_refl _)).setc (Nat.le_refl _)
    · have HF := hide (R1.out.fr.trans hf (fun _ _ e => e))
      have HN := hide hpf
      clear hf hpf
      go_wp2
      exact ⟨rfl, .inr ⟨by simp [changeP, HP1.out, HN.out], rfl, HF.out⟩⟩
  · have HN := hide hpf
    have HF := hide hf.after
    clear hf hpf
    go_wp2
    exact ⟨rfl, .inr ⟨by simp [changeP, HN.out], rfl, HF.out⟩⟩
set_option maxHeartbeats 2000000 in
theorem other_reads : Reads 80 otherP UpdR := fun W p q xs h => by
  have hp := h.pl
  have hs := heap_alloc_new W zeroU
  have R0 := hide (h.alloc zeroU)
  have HN := hide (name_reads _ p q xs R0.out.base)
  unfold zeroU at HN R0 hs
  have HS := hide hs
  clear hs h
  go_enter Try.func80, Try.ntmps80
  go_wp2_with fail
  refine HN.out.mono ?_
  rintro e w1 (⟨tb, ys, v, hpf, rfl, hv, hr⟩ | ⟨hpf, rfl, hf⟩)
  · obtain rfl : v = .string tb := hv
    have HS1 := hide (hr.keep HS.out (by omega))
    have R1 := hide (R0.out.trans hr)
    have HB := hide (action_reads _ p q ys R1.out.base)
    have HP1 := hide hpf
    clear hr hpf HN
    go_wp2_with fail
    refine HB.out.mono ?_
    rintro e w2 (⟨x, zs, v, hpf, rfl, hv, hr⟩ | ⟨hpf, rfl, hf⟩)
    · obtain ⟨va, vb, rfl, hva, hvb⟩ := hv
      obtain ⟨ma, mc, rfl⟩ := list_slice hva
      obtain ⟨na, nc, rfl⟩ := list_slice hvb
      obtain ⟨a0, a1, a2, a3, a4, a5, a6, a7, af⟩ := cells8 (hr.keep HS1.out (by omega))
      have R2 := hide (R1.out.trans hr)
      have HVA := hide hva; have HVB := hide hvb
      have HP2 := hide hpf
      have HZ := hide R1.out.fr.size
      have HLT := hide (lt_of_heap HS1.out)
      clear hr hpf HB hva hvb
      go_wp2
      refine bodyPost_ret (v := .agg #[.int .u8 0, .string tb, .slice ma x.ms.length mc, .int .i64 x.prio, .string x.act, .slice na x.args.length nc, .int .i64 0, .slice none 0 0]) (by simp [results, Try.results80, go_sem, a0, a1, a2, a3, a4, a5, a6, a7]) rfl (.inl ⟨⟨0, tb, x, 0, []⟩, zs, _, by simp [otherP, HP1.out, HP2.out], rfl, ?_, ?_⟩)
      · have hlt := HLT.out
        refine ⟨_, _, _, rfl, ?_, ?_, list_nil _ _ _ _ _⟩
        · exact rep_end (ListR.ok match_ok _ _) HVA.out HZ.out (by simp) (fun b hb _ => by have hne : b ≠ W.heap.size := (by omega); simp only [set_other hne])
        · exact rep_end (ListR.ok bits_ok _ _) HVB.out HZ.out (by simp) (fun b hb _ => by have hne : b ≠ W.heap.size := (by omega); simp only [set_other hne])
      · exact (((((((R2.out.setc (Nat.le_refl _)).setc (Nat.le_refl _)).setc (Nat.le_refl _)).setc (Nat.le_refl _)).setc (Nat.le_refl _)).setc (Nat.le_refl _)).setc (Nat.le_refl _)).setc (Nat.le_refl _)
    · have HF := hide (R1.out.fr.trans hf (fun _ _ e => e))
      have HN := hide hpf
      clear hf hpf
      go_wp2
      exact ⟨rfl, .inr ⟨by simp [otherP, HP1.out, HN.out], rfl, HF.out⟩⟩
  · have HN := hide hpf
    have HF := hide hf.after
    clear hf hpf
    go_wp2
    exact ⟨rfl, .inr ⟨by simp [otherP, HN.out], rfl, HF.out⟩⟩
set_option maxHeartbeats 2000000 in
theorem group_reads : Reads 81 groupP UpdR := fun W p q xs h => by
  have hmf : ∀ (fn : Fn) (first cap : Array Value) (w : World), (Instr.makeFunc fn first cap).run Try.prog w = .ok (.func fn first cap) w := fun _ _ _ _ => rfl
  have hp := h.pl
  have hs := heap_alloc_new W zeroU
  have R0 := hide (h.alloc zeroU)
  have HN := hide (whole_reads _ p q xs R0.out.base)
  unfold zeroU at HN R0 hs
  have HS := hide hs
  clear hs h
  go_enter Try.func81, Try.ntmps81
  go_wp2_with fail
  refine HN.out.mono ?_
  rintro e w1 (⟨N, ys, v, hpf, rfl, hv, hr⟩ | ⟨hpf, rfl, hf⟩)
  · obtain rfl : v = .int .i64 N := hv
    have HS1 := hide (hr.keep HS.out (by omega))
    have R1 := hide (R0.out.trans hr)
    have HB := hide (byte_reads _ p q ys R1.out.base)
    have HP1 := hide hpf
    clear hr hpf HN
    go_wp2_with fail
    refine HB.out.mono ?_
    rintro e w2 (⟨n, zs, v, hpf, rfl, hv, hr⟩ | ⟨hpf, rfl, hf⟩)
    · obtain rfl : v = .int .i64 n := hv
      have hn := byte_lt hpf R1.out.byte
      have HS2 := hide (hr.keep HS1.out (by omega))
      have R2 := hide (R1.out.trans hr)
      have HL := hide (listOf_int n (by omega) w2 p q zs R2.out.base)
      have HP2 := hide hpf
      clear hr hpf HB
      go_wp2_with fail
      refine HL.out.mono ?_
      rintro e w3 (⟨l, us, v, hpf, rfl, hv, hr⟩ | ⟨hpf, rfl, hf⟩)
      · obtain ⟨a, cap, rfl⟩ := list_slice hv
        obtain ⟨a0, a1, a2, a3, a4, a5, a6, a7, af⟩ := cells8 (hr.keep HS2.out (by omega))
        have R3 := hide (R2.out.trans hr)
        have HV := hide hv
        have HP3 := hide hpf
        have HZ := hide R2.out.fr.size
        clear hr hpf HL hv
        go_wp2
        refine bodyPost_ret (v := .agg #[.int .u8 0, .string ⟨#[]⟩, .slice none 0 0, .int .i64 0, .string ⟨#[]⟩, .slice none 0 0, .int .i64 N, .slice a l.length cap]) (by simp [results, Try.results81, go_sem, a0, a1, a2, a3, a4, a5, a6, a7]) rfl (.inl ⟨⟨0, ByteArray.empty, noEntry, N, l⟩, us, _, by simp [groupP, listP, HP1.out, HP2.out, HP3.out], rfl, ?_, ?_⟩)
        · refine ⟨_, _, _, rfl, list_nil _ _ _ _ _, list_nil _ _ _ _ _, ?_⟩
          have hlt := lt_of_heap HS2.out
          exact rep_end (ListR.ok int_ok _ _) HV.out HZ.out (by simp) (fun b hb _ => by have hne : b ≠ W.heap.size := (by omega); simp only [set_other hne])
        · exact (((((((R3.out.setc (Nat.le_refl _)).setc (Nat.le_refl _)).setc (Nat.le_refl _)).setc (Nat.le_refl _)).setc (Nat.le_refl _)).setc (Nat.le_refl _)).setc (Nat.le_refl _)).setc (Nat.le_refl _)
      · have HF := hide (R2.out.fr.trans hf (fun _ _ e => e))
        have HN := hide hpf
        clear hf hpf
        go_wp2
        exact ⟨rfl, .inr ⟨by simp [groupP, listP, HP1.out, HP2.out, HN.out], rfl, HF.out⟩⟩
    · have HF := hide (R1.out.fr.trans hf (fun _ _ e => e))
      have HN := hide hpf
      clear hf hpf
      go_wp2
      exact ⟨rfl, .inr ⟨by simp [groupP, listP, HP1.out, HN.out], rfl, HF.out⟩⟩
  · have HN := hide hpf
    have HF := hide hf.after
    clear hf hpf
    go_wp2
    exact ⟨rfl, .inr ⟨by simp [groupP, HN.out], rfl, HF.out⟩⟩
end Go.Proofs.Ythlfbpadakoamab
/- A table of function values by small numbers, as a map literal lays it: laws for the insert and the look-up. -/
namespace Go.Proofs.Ythlfbpadakoamab
open Go.RowKit Go.MapKept


def Spec := World → Value → Prop
/- A fact on a value that hangs on no other blocks than such as are no map. -/
def Steady (s : Spec) : Prop := ∀ (B : Nat) (W W' : World) (v : Value), (∃ es c, W.heap[B]? = some (.map es c)) → (∀ b, b ≠ B → b < W.heap.size → W'.heap[b]? = W.heap[b]?) → s W v → s W' v

def Fit (W : World) : List MapEntry → List (Int × Spec) → Prop
  | [], [] => True
  | e :: es, s :: ss => e.key = .int .u8 s.1 ∧ s.2 W e.val ∧ Fit W es ss
  | _, _ => False
def Tab (W : World) (B : Nat) (l : List (Int × Spec)) : Prop := ∃ es : Array MapEntry, W.heap[B]? = some (.map es es.size) ∧ Fit W es.toList l
def AllSteady (l : List (Int × Spec)) : Prop := ∀ s ∈ l, Steady s.2

theorem Fit.move {W W' : World} {B : Nat} (hB : ∃ es c, W.heap[B]? = some (.map es c)) (hk : ∀ b, b ≠ B → b < W.heap.size → W'.heap[b]? = W.heap[b]?) : ∀ {es : List MapEntry} {l : List (Int × Spec)}, AllSteady l → Fit W es l → Fit W' es l
  | [], [], _, _ => trivial
  | _ :: _, s :: _, ha, h => ⟨h.1, ha s (List.mem_cons_self ..) B W W' _ hB hk h.2.1, Fit.move hB hk (fun x hx => ha x (List.mem_cons_of_mem _ hx)) h.2.2⟩
  | [], _ :: _, _, h => h
  | _ :: _, [], _, h => h
theorem Fit.snoc {W : World} {e : MapEntry} {s : Int × Spec} : ∀ {es : List MapEntry} {l : List (Int × Spec)}, Fit W es l → e.key = .int .u8 s.1 → s.2 W e.val → Fit W (es ++ [e]) (l ++ [s])
  | [], [], _, h1, h2 => ⟨h1, h2, trivial⟩
  | _ :: _, _ :: _, h, h1, h2 => ⟨h.1, h.2.1, Fit.snoc h.2.2 h1 h2⟩
  | [], _ :: _, h, _, _ => h.elim
  | _ :: _, [], h, _, _ => h.elim
theorem Fit.keys {W : World} : ∀ {es : List MapEntry} {l : List (Int × Spec)}, Fit W es l → ∀ x ∈ es, ∃ s ∈ l, x.key = .int .u8 s.1
  | [], _, _, _, hx => by cases hx
  | e :: es, s :: ss, h, x, hx => by
    rcases List.mem_cons.1 hx with rfl | hx
    · exact ⟨s, List.mem_cons_self .., h.1⟩
    · obtain ⟨t, ht, e⟩ := Fit.keys h.2.2 x hx
      exact ⟨t, List.mem_cons_of_mem _ ht, e⟩
  | _ :: _, [], h, _, _ => h.elim
theorem Fit.at {W : World} : ∀ {es : List MapEntry} {l : List (Int × Spec)}, Fit W es l → ∀ (j : Nat) (e : MapEntry), es[j]? = some e → ∃ s ∈ l, e.key = .int .u8 s.1 ∧ s.2 W e.val
  | [], _, _, _, _, he => by simp at he
  | e :: es, s :: ss, h, 0, x, he => by simp at he; subst he; exact ⟨s, List.mem_cons_self .., h.1, h.2.1⟩
  | e :: es, s :: ss, h, j + 1, x, he => by
    obtain ⟨t, ht, e⟩ := Fit.at h.2.2 j x (by simpa using he)
    exact ⟨t, List.mem_cons_of_mem _ ht, e⟩
  | _ :: _, [], h, _, _, _ => h.elim
theorem Fit.has {W : World} : ∀ {es : List MapEntry} {l : List (Int × Spec)}, Fit W es l → ∀ s ∈ l, ∃ x ∈ es, x.key = .int .u8 s.1
  | [], [], _, _, hs => by cases hs
  | e :: es, t :: ts, h, s, hs => by
    rcases List.mem_cons.1 hs with rfl | hs
    · exact ⟨e, List.mem_cons_self .., h.1⟩
    · obtain ⟨x, hx, e⟩ := Fit.has h.2.2 s hs
      exact ⟨x, List.mem_cons_of_mem _ hx, e⟩
  | [], _ :: _, h, _, _ => h.elim
  | _ :: _, [], h, _, _ => h.elim

theorem Tab.empty (w : World) : Tab (w.alloc (.map #[] 0)) w.heap.size [] := ⟨#[], heap_alloc_new w _, trivial⟩
theorem Tab.move {W W' : World} {B : Nat} {l : List (Int × Spec)} (h : Tab W B l) (ha : AllSteady l) (hk : ∀ b, b < W.heap.size → W'.heap[b]? = W.heap[b]?) : Tab W' B l := by
  obtain ⟨es, hb, hf⟩ := h
  exact ⟨es, (hk B (lt_of_block hb)).trans hb, hf.move ⟨_, _, hb⟩ (fun b _ hlt => hk b hlt) ha⟩

/- What an insert of a key that is not there leaves. -/
theorem Tab.insert {P : Program} {W : World} {B : Nat} {l : List (Int × Spec)} {t kt et : TypeId} (h : Tab W B l) (ha : AllSteady l) (ht : P.underlying t = some (.map kt et)) (hkt : P.underlying kt = some (.int .u8))
    (k : Int) (v : Value) (s : Spec) (hs : Steady s) (hnew : ∀ x ∈ l, x.1 ≠ k) (hv : s W v) :
    ∃ W', (Instr.mapUpdate t (.map (some B)) (.int .u8 k) v).run P W = .ok () W' ∧ Tab W' B (l ++ [(k, s)]) ∧ W.grownBy W' (some B) := by
  obtain ⟨es, hb, hf⟩ := h
  have hk : IsKey (.int .u8) (.int .u8 k) := rfl
  have hks : ∀ x ∈ es.toList, IsKey (.int .u8) x.key := fun x hx => by obtain ⟨s, _, e⟩ := hf.keys x hx; rw [e]; rfl
  rcases findNow_spec hk es.toList 0 hks with ⟨h1, _⟩ | ⟨j, e, h1, h2, h3⟩
  · have hrun : (Instr.mapUpdate t (.map (some B)) (.int .u8 k) v).run P W = .ok () { W with heap := W.heap.setIfInBounds B (.map (es.push { key := .int .u8 k, val := v, born := es.size }) (es.size + 1)) } := by
      simp [Instr.mapUpdate, run_underlying ht, MapKept.run_getObj_map hb, run_checkKey hkt hk, run_findKey hkt h1, MapKept.run_setObj_map _ hb, Result.andThen]
    have hh := heap_set (o' := Obj.map (es.push { key := .int .u8 k, val := v, born := es.size }) (es.size + 1)) hb
    refine ⟨_, hrun, ⟨es.push { key := .int .u8 k, val := v, born := es.size }, ?_, ?_⟩, ⟨rfl, rfl, rfl, by simp, fun i _ hi => hh.2 i (fun e => hi (by rw [e]))⟩⟩
    · rw [Array.size_push]; exact hh.1
    · rw [Array.toList_push]
      refine Fit.snoc (Fit.move ⟨_, _, hb⟩ (fun b hne _ => hh.2 b hne) ha hf) rfl ?_
      exact hs B W _ _ ⟨_, _, hb⟩ (fun b hne _ => hh.2 b hne) hv
  · exfalso
    obtain ⟨s, hs, e1, _⟩ := hf.at j e h2
    rw [h3] at e1
    injection e1 with _ e2
    exact hnew s hs e2.symm

theorem wpList_insert_tab {P : Program} (w : World) {ops : Array Oper} {rest : List Oper} {o : Oper} {a : Act} {Q : Exit → Act → World → Prop}
    (hg : o.guard = none) (m x v : Operand) (t : TypeId) (hop : o.op = Op.insert t m x v) (kt et : TypeId) (ht : P.underlying t = some (.map kt et)) (hkt : P.underlying kt = some (.int .u8))
    (B : Nat) (l : List (Int × Spec)) (hm : a.eval m = .map (some B)) (k : Int) (hx : a.eval x = .int .u8 k) (val : Value) (hv : a.eval v = val) (s : Spec) (h : Tab w B l) (ha : AllSteady l) (hs : Steady s) (hnew : ∀ x ∈ l, x.1 ≠ k) (hval : s w val)
    (hK : ∀ w', Tab w' B (l ++ [(k, s)]) → w.grownBy w' (some B) → wpList P ops Q rest (a.put o.dst undef) w') :
    wpList P ops Q (o :: rest) a w := by
  refine wpList_plain hg fun K' hK' => ?_
  obtain ⟨w', hrun, r1, r2⟩ := h.insert ha ht hkt k val s hs hnew hval
  unfold Oper.wp
  simp [execOp, hop, hm, hx, hv, hrun, Result.andThen]
  exact hK' _ _ (hK w' r1 r2)

/- What a look-up finds. -/
theorem Tab.look {P : Program} {W : World} {B : Nat} {l : List (Int × Spec)} {t kt et : TypeId} (h : Tab W B l) (ht : P.underlying t = some (.map kt et)) (hkt : P.underlying kt = some (.int .u8)) (hz : (zeroValue et).run P W = .ok .nilFunc W) (k : Int) :
    (∃ s ∈ l, s.1 = k ∧ ∃ v, (Instr.lookup t (.map (some B)) (.int .u8 k) true).run P W = .ok (.tuple #[v, .bool true]) W ∧ s.2 W v) ∨
    ((∀ s ∈ l, s.1 ≠ k) ∧ (Instr.lookup t (.map (some B)) (.int .u8 k) true).run P W = .ok (.tuple #[.nilFunc, .bool false]) W) := by
  obtain ⟨es, hb, hf⟩ := h
  have hk : IsKey (.int .u8) (.int .u8 k) := rfl
  have hks : ∀ x ∈ es.toList, IsKey (.int .u8) x.key := fun x hx => by obtain ⟨s, _, e⟩ := hf.keys x hx; rw [e]; rfl
  rcases findNow_spec hk es.toList 0 hks with ⟨h1, h2⟩ | ⟨j, e, h1, h2, h3⟩
  · refine .inr ⟨fun s hs e => ?_, ?_⟩
    · obtain ⟨x, hx, hxk⟩ := hf.has s hs
      exact h2 x hx (by rw [hxk, e])
    · simp [Instr.lookup, run_underlying ht, MapKept.run_getObj_map hb, run_checkKey hkt hk, run_findKey hkt h1, hz, Result.andThen]
  · obtain ⟨s, hs, e1, e2⟩ := hf.at j e h2
    refine .inl ⟨s, hs, ?_, e.val, ?_, e2⟩
    · rw [h3] at e1
      injection e1 with _ e2
      exact e2.symm
    · simp [Instr.lookup, run_underlying ht, MapKept.run_getObj_map hb, run_checkKey hkt hk, run_findKey hkt h1, Result.andThen]
end Go.Proofs.Ythlfbpadakoamab
/- package wire: what is chosen by a kind; an update that is read. -/
namespace Go.Proofs.Ythlfbpadakoamab
open Go.RowKit Go.MapKept

def methT (G p : Nat) : Spec := fun _ v => v = .func (Fn.func G) #[.pointer (some ⟨p, 0, none⟩)] #[]
theorem methT_steady (G p : Nat) : Steady (methT G p) := fun _ _ _ _ _ _ h => h
theorem steady_nil : AllSteady [] := fun _ h => by cases h
theorem steady_snoc {l : List (Int × Spec)} {s : Int × Spec} (h : AllSteady l) (hs : Steady s.2) : AllSteady (l ++ [s]) := fun x hx => by
  rcases List.mem_append.1 hx with hx | hx
  · exact h x hx
  · rw [List.mem_singleton.1 hx]; exact hs
def tabU (p : Nat) : List (Int × Spec) := [(1, methT 79 p), (2, methT 79 p), (3, methT 79 p), (4, methT 80 p), (5, methT 81 p)]
def entP (G : Nat) : Prop := ∀ (args : Array Value) (w : World), (callFunc G args).run Try.prog w = .ok (.enter G args) w
theorem ent_change : entP 79 := enters_of Try.func79 (by kernel_rfl) rfl
theorem ent_other : entP 80 := enters_of Try.func80 (by kernel_rfl) rfl
theorem ent_group : entP 81 := enters_of Try.func81 (by kernel_rfl) rfl
set_option maxRecDepth 100000 in
theorem zeroU_fn (W : World) : (zeroValue 105).run Try.prog W = .ok .nilFunc W := rfl
theorem tabU_has {p : Nat} {s : Int × Spec} (hs : s ∈ tabU p) {k : Nat} (hk : s.1 = (k : Int)) : ∃ G, s.2 = methT G p ∧ entP G ∧ Reads G (updK k) UpdR := by
  simp only [tabU, List.mem_cons, List.not_mem_nil, or_false] at hs
  rcases hs with rfl | rfl | rfl | rfl | rfl
  all_goals
    simp only at hk
  · obtain rfl : k = 1 := by omega
    exact ⟨_, rfl, ent_change, change_reads⟩
  · obtain rfl : k = 2 := by omega
    exact ⟨_, rfl, ent_change, change_reads⟩
  · obtain rfl : k = 3 := by omega
    exact ⟨_, rfl, ent_change, change_reads⟩
  · obtain rfl : k = 4 := by omega
    exact ⟨_, rfl, ent_other, other_reads⟩
  · obtain rfl : k = 5 := by omega
    exact ⟨_, rfl, ent_group, group_reads⟩
theorem tabU_not {p k : Nat} (h : ∀ s ∈ tabU p, s.1 ≠ (k : Int)) (ys : List Nat) : updK k ys = none := by
  have h1 := h (1, methT 79 p) (by simp [tabU])
  have h2 := h (2, methT 79 p) (by simp [tabU])
  have h3 := h (3, methT 79 p) (by simp [tabU])
  have h4 := h (4, methT 80 p) (by simp [tabU])
  have h5 := h (5, methT 81 p) (by simp [tabU])
  simp only at h1 h2 h3 h4 h5
  unfold updK
  rw [if_neg (by omega), if_neg (by omega), if_neg (by omega)]
theorem chosenU (B p k : Nat) (W : World) (h : Tab W B (tabU p)) :
    Calls Try.prog 78 #[.map (some B), .int .u8 k] W fun e W' => (∃ G, e = .returned (.func (Fn.func G) #[.pointer (some ⟨p, 0, none⟩)] #[]) ∧ W' = W ∧ entP G ∧ Reads G (updK k) UpdR) ∨ (e = .panicked panW ∧ W' = W ∧ ∀ ys, updK k ys = none) := by
  rcases h.look Try.underlying132 Try.underlying101 (zeroU_fn W) (k : Int) with ⟨s, hs, hk, v, hl, hv⟩ | ⟨hn, hl⟩
  · obtain ⟨G, e, h1, h2⟩ := tabU_has hs hk
    rw [e] at hv
    have hv' : v = .func (Fn.func G) #[.pointer (some ⟨p, 0, none⟩)] #[] := hv
    subst hv'
    have H1 := hide h1; have H2 := hide h2
    clear h1 h2 hs hk hv e h
    go_enter Try.func78, Try.ntmps78
    go_wp2_with fail
    refine (must_yes _).mono ?_
    rintro e w1 ⟨rfl, rfl⟩
    go_wp2
    go_ret
    exact .inl ⟨G, rfl, rfl, H1.out, H2.out⟩
  · have HN := hide (tabU_not hn)
    clear hn h
    go_enter Try.func78, Try.ntmps78
    go_wp2_with fail
    refine (must_no _).mono ?_
    rintro e w1 ⟨rfl, rfl⟩
    go_wp2
    exact ⟨rfl, .inr ⟨rfl, rfl, HN.out⟩⟩
end Go.Proofs.Ythlfbpadakoamab
/- package wire: an update that is read. -/
namespace Go.Proofs.Ythlfbpadakoamab
open Go.RowKit Go.MapKept

theorem methT_at (G p : Nat) (W : World) : methT G p W (.func (Fn.func G) #[.pointer (some ⟨p, 0, none⟩)] #[]) := rfl
set_option maxHeartbeats 4000000 in
theorem upd_reads : Reads 56 updP UpdR := fun W p q xs h => by
  have hmf : ∀ (fn : Fn) (first cap : Array Value) (w : World), (Instr.makeFunc fn first cap).run Try.prog w = .ok (.func fn first cap) w := fun _ _ _ _ => rfl
  have hmm := @run_makeMap Try.prog
  have hp := h.pl
  have hs := heap_alloc_new W zeroU
  have R0 := hide (h.alloc zeroU)
  have HN := hide (byte_reads _ p q xs R0.out.base)
  unfold zeroU at HN R0 hs
  have HS := hide hs
  have HBY := hide h.byte
  clear hs h
  go_enter Try.func56, Try.ntmps56
  go_wp2_with fail
  refine HN.out.mono ?_
  rintro e w1 (⟨k, ys, v, hpf, rfl, hv, hr⟩ | ⟨hpf, rfl, hf⟩)
  · obtain rfl : v = .int .i64 k := hv
    have hk := byte_lt hpf HBY.out
    have hw : IntKind.u8.wrap (k : Int) = k := by rw [IntKind.wrap_u8]; omega
    have HS1 := hide (hr.keep HS.out (by omega))
    have R1 := hide (R0.out.trans hr)
    have HP1 := hide hpf
    have HT0 := hide (Tab.empty w1)
    have HZ1 := hide (lt_of_heap HS1.out)
    have R1' := hide (R1.out.alloc (.map #[] 0))
    have HS1' := hide ((Below.heap_alloc w1 (.map #[] 0) _ HZ1.out).trans HS1.out)
    clear hr hpf HN
    go_wp2_with (first
      | (refine wpList_insert_tab _ rfl _ _ _ 132 rfl _ _ Try.underlying132 Try.underlying101 w1.heap.size [] rfl 1 rfl _ rfl (methT 79 p) HT0.out steady_nil (methT_steady _ _) (by simp) (methT_at _ _ _) ?_; intro u1 T1 G1; have HT1 := hide T1; have HG1 := hide G1; clear T1 G1)
      | (refine wpList_insert_tab _ rfl _ _ _ 132 rfl _ _ Try.underlying132 Try.underlying101 w1.heap.size _ rfl 2 rfl _ rfl (methT 79 p) HT1.out (steady_snoc steady_nil (methT_steady _ _)) (methT_steady _ _) (by simp) (methT_at _ _ _) ?_; intro u2 T2 G2; have HT2 := hide T2; have HG2 := hide (HG1.out.trans G2); clear T2 G2)
      | (refine wpList_insert_tab _ rfl _ _ _ 132 rfl _ _ Try.underlying132 Try.underlying101 w1.heap.size _ rfl 3 rfl _ rfl (methT 79 p) HT2.out (steady_snoc (steady_snoc steady_nil (methT_steady _ _)) (methT_steady _ _)) (methT_steady _ _) (by simp) (methT_at _ _ _) ?_; intro u3 T3 G3; have HT3 := hide T3; have HG3 := hide (HG2.out.trans G3); clear T3 G3)
      | (refine wpList_insert_tab _ rfl _ _ _ 132 rfl _ _ Try.underlying132 Try.underlying101 w1.heap.size _ rfl 4 rfl _ rfl (methT 80 p) HT3.out (steady_snoc (steady_snoc (steady_snoc steady_nil (methT_steady _ _)) (methT_steady _ _)) (methT_steady _ _)) (methT_steady _ _) (by simp) (methT_at _ _ _) ?_; intro u4 T4 G4; have HT4 := hide T4; have HG4 := hide (HG3.out.trans G4); clear T4 G4)
      | (refine wpList_insert_tab _ rfl _ _ _ 132 rfl _ _ Try.underlying132 Try.underlying101 w1.heap.size _ rfl 5 rfl _ rfl (methT 81 p) HT4.out (steady_snoc (steady_snoc (steady_snoc (steady_snoc steady_nil (methT_steady _ _)) (methT_steady _ _)) (methT_steady _ _)) (methT_steady _ _)) (methT_steady _ _) (by simp) (methT_at _ _ _) ?_; intro u5 T5 G5; have HT5 : Hid (Tab u5 w1.heap.size (tabU p)) := T5; have HG5 := hide (HG4.out.trans G5); clear T5 G5))
    have R5 := hide (R1'.out.grown HG5.out (fun r e => by injection e with e; rw [← e]; exact R1.out.fr.size))
    have HS5 : Hid (u5.heap[W.heap.size]? = _) := hide ((HG5.out.block W.heap.size (by rw [World.size_alloc]; have := HZ1.out; omega) (fun e => by injection e with e; have := HZ1.out; omega)).trans HS1'.out)
    clear HT0 HT1 HT2 HT3 HT4 HG1 HG2 HG3 HG4
    refine (chosenU w1.heap.size p k u5 HT5.out).mono ?_
    rintro e w2 (⟨G, rfl, rfl, hG, hR⟩ | ⟨rfl, rfl, hno⟩)
    · have HE := hG
      have HR := hide (hR w2 p q ys R5.out.base)
      unfold entP at HE
      clear hG hR
      go_wp2_with fail
      refine HR.out.mono ?_
      rintro e w3 (⟨x, zs, v, hpf, rfl, hv, hr⟩ | ⟨hpf, rfl, hf⟩)
      · obtain ⟨va, vb, vp, rfl, hva, hvb, hvp⟩ := hv
        obtain ⟨ma, mc, rfl⟩ := list_slice hva
        obtain ⟨na, nc, rfl⟩ := list_slice hvb
        obtain ⟨pa, pc, rfl⟩ := list_slice hvp
        have hs3 := hr.keep HS5.out (by omega)
        have hz3 := lt_of_heap hs3
        obtain ⟨a0, a1, a2, a3, a4, a5, a6, a7, af⟩ := cells8 hs3
        have R6 := hide (R5.out.trans hr)
        have HVA := hide hva; have HVB := hide hvb; have HVP := hide hvp
        have HP2 := hide hpf
        have HZ5 := hide R5.out.fr.size
        have HL5 := hide (lt_of_heap HS5.out)
        clear hr hpf HR hva hvb hvp hs3
        go_wp2
        refine bodyPost_ret (v := .agg #[.int .u8 k, .string x.table, .slice ma x.entry.ms.length mc, .int .i64 x.entry.prio, .string x.entry.act, .slice na x.entry.args.length nc, .int .i64 x.n, .slice pa x.ports.length pc]) (by simp [results, Try.results56, go_sem, World.cell?_alloc_past, hz3, a0, a1, a2, a3, a4, a5, a6, a7]) rfl (.inl ⟨{ x with kind := k }, zs, _, by simp [updP, HP1.out, HP2.out], rfl, ?_, ?_⟩)
        · have hlt := HL5.out
          refine ⟨_, _, _, rfl, ?_, ?_, ?_⟩
          · exact rep_end (ListR.ok match_ok _ _) HVA.out HZ5.out (by simp) (fun b hb hl => by have hne : b ≠ W.heap.size := (by omega); rw [Below.heap_alloc _ _ _ (by simpa using hl)]; simp only [set_other hne])
          · exact rep_end (ListR.ok bits_ok _ _) HVB.out HZ5.out (by simp) (fun b hb hl => by have hne : b ≠ W.heap.size := (by omega); rw [Below.heap_alloc _ _ _ (by simpa using hl)]; simp only [set_other hne])
          · exact rep_end (ListR.ok int_ok _ _) HVP.out HZ5.out (by simp) (fun b hb hl => by have hne : b ≠ W.heap.size := (by omega); rw [Below.heap_alloc _ _ _ (by simpa using hl)]; simp only [set_other hne])
        · exact ((((((((R6.out.setc (Nat.le_refl _)).setc (Nat.le_refl _)).setc (Nat.le_refl _)).setc (Nat.le_refl _)).setc (Nat.le_refl _)).setc (Nat.le_refl _)).setc (Nat.le_refl _)).setc (Nat.le_refl _)).alloc _
      · have HF := hide (R5.out.fr.trans hf (fun _ _ e => e))
        have HN := hide hpf
        clear hf hpf
        go_wp2
        exact ⟨rfl, .inr ⟨by simp [updP, HP1.out, HN.out], rfl, HF.out⟩⟩
    · have HN := hide (hno ys)
      clear hno
      go_wp2
      exact ⟨rfl, .inr ⟨by simp [updP, HP1.out, HN.out], rfl, R5.out.fr⟩⟩
  · have HN := hide hpf
    have HF := hide hf.after
    clear hf hpf
    go_wp2
    exact ⟨rfl, .inr ⟨by simp [updP, HN.out], rfl, HF.out⟩⟩
end Go.Proofs.Ythlfbpadakoamab
/- package wire: a list that is read. -/
namespace Go.Proofs.Ythlfbpadakoamab
open Go.RowKit

theorem info_update : (Try.prog.info? 104).map (fun i => (i.zero, i.size, i.bytes)) = some (some (.agg #[.int .u8 0, .string ⟨#[]⟩, .slice none 0 0, .int .i64 0, .string ⟨#[]⟩, .slice none 0 0, .int .i64 0, .slice none 0 0]), 8, 128) := by kernel_rfl
set_option maxHeartbeats 2000000 in
theorem listOf_update (n : Nat) (hn : n ≤ 65535) (W0 : World) (p q : Nat) (xs : List Nat) (h : Rr W0 W0 p q xs) :
    Calls Try.prog 55 #[.int .i64 n, .func (Fn.func 56) #[.pointer (some ⟨p, 0, none⟩)] #[]] W0 fun e W' =>
      (∃ l ys v, manyP updP n xs = some (l, ys) ∧ e = .returned v ∧ ListR UpdR mkAgg 8 W' (Bn W0 W') v l ∧ Rr W0 W' p q ys) ∨ (manyP updP n xs = none ∧ e = .panicked panW ∧ Fr (· = p) W0 W') := by
  have hz : p < W0.heap.size := h.pl
  have HS := hide (Ls.start (rep := UpdR) (mk := mkAgg) (K := 8) (e := 104) (f := updP) h)
  obtain ⟨i0, hi0, hz0, hz1, hz2⟩ := info_parts info_update
  have HG := hide upd_reads
  clear h
  go_enter Try.func55, Try.ntmps55
  go_wp2
  go_loopw [5, 7] (fun v i wr => ∃ (k : Nat) (l : List _) (ys : List Nat) (css : List (List Value)), k ≤ n ∧ i = .int .i64 k ∧ Ls UpdR mkAgg 8 104 updP W0 wr p q xs k v l ys css) (fun _ i _ => n - (intOf i).toNat)
  case atStart => exact ⟨0, [], xs, [], Nat.zero_le _, rfl, HS.out⟩
  case round =>
    obtain ⟨k, l, ys, css, hk, rfl, hL⟩ := hrel
    have L0 := hide hL
    clear hL
    by_cases hlt : k < n
    · have HC := hide (HG.out wr p q ys L0.out.rr.base)
      go_wp2_with fail
      refine HC.out.mono ?_
      rintro e w1 (⟨x, zs, u, hpf, rfl, hu, hr⟩ | ⟨hpf, rfl, hf⟩)
      · have HU := hide hu
        obtain ⟨va, vb, vp, rfl, hva, hvb, hvp⟩ := hu
        obtain ⟨ma, mc, rfl⟩ := list_slice hva
        obtain ⟨na, nc, rfl⟩ := list_slice hvb
        obtain ⟨pa, pc, rfl⟩ := list_slice hvp
        clear hva hvb hvp
        have HP := hide hpf
        have R1 := hide hr
        clear hpf hr
        go_wp2_with (at_builtin; refine wpList_append_own_at _ rfl _ _ 26 rfl W0.heap.size 104 i0 (.agg #[.int .u8 0, .string ⟨#[]⟩, .slice none 0 0, .int .i64 0, .string ⟨#[]⟩, .slice none 0 0, .int .i64 0, .slice none 0 0]) 8 128 Try.underlying26 hi0 hz0 hz1 hz2 rfl (by decide) _ k css.flatten rfl (own_alloc (own_fr L0.out.own R1.out.fr hz) _) ⟨w1.heap.size, 0, none⟩ 1 1 [.int .u8 x.kind, .string x.table, .slice ma x.entry.ms.length mc, .int .i64 x.entry.prio, .string x.entry.act, .slice na x.entry.args.length nc, .int .i64 x.n, .slice pa x.ports.length pc] rfl rfl (cells_new _ _ _) (by simp [Value.oneCell']) (by unfold maxLen; omega) (by omega) (by have := L0.out.rr.fr.size; have := R1.out.fr.size; simp; omega) ?_; intro v2 w2 O2 G2 _ K2; have L2 := hide (L0.out.step upd_ok (cs := [.int .u8 x.kind, .string x.table, .slice ma x.entry.ms.length mc, .int .i64 x.entry.prio, .string x.entry.act, .slice na x.entry.args.length nc, .int .i64 x.n, .slice pa x.ports.length pc]) HP.out R1.out HU.out rfl O2 G2 K2); clear O2 G2 K2)
        go_roundw
        case rel => exact ⟨k + 1, _, _, _, by omega, by go_num, L2.out⟩
        case measure => simp [intOf]; omega
      · have HN := hide (many_stuck L0.out.pf hpf n hlt)
        have HF := hide (L0.out.rr.fr.trans hf (fun _ _ e => e))
        clear hpf hf
        go_wp2
        exact ⟨rfl, .inr ⟨HN.out, rfl, HF.out⟩⟩
    · obtain rfl : k = n := by omega
      go_wp2
      go_ret
      exact .inl ⟨l, ys, _, L0.out.pf, rfl, L0.out.done upd_ok, L0.out.rr⟩
end Go.Proofs.Ythlfbpadakoamab
