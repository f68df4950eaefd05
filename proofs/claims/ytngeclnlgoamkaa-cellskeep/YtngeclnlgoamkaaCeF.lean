/- package cells: Read, Write, Count. -/
import Derived.Test.YtngeclnlgoamkaaCeE
namespace Go.Proofs.Ytngeclnlgoamkaa
open Go.RowKit

def Ar.put (a : Ar) (k : Nat) (b : Nb) : Ar := { a with cs := a.cs.set k b }
/- An array whose lists are new. -/
structure ArN (W : World) (B : Nat) (a : Ar) (ca la : Option Addr) : Prop where
  cs : OwnR W B ca 24 (flat Nb.cells a.cs)
  ls : OwnR W B la 3 (flat intC a.ls)
def arV (a : Ar) (ca la : Option Addr) : Value := .agg #[.string a.name, .int .u8 a.kind, .int .i64 a.w, .int .i64 a.rate, .int .i64 a.burst, .slice ca a.cs.length a.cs.length, .slice la a.ls.length a.ls.length]
theorem arV_put (a : Ar) (k : Nat) (b : Nb) (ca la : Option Addr) : arV (a.put k b) ca la = .agg #[.string a.name, .int .u8 a.kind, .int .i64 a.w, .int .i64 a.rate, .int .i64 a.burst, .slice ca a.cs.length a.cs.length, .slice la a.ls.length a.ls.length] := by
  simp [arV, Ar.put]
def zeroV : Value := .agg #[.string ⟨#[]⟩, .int .u8 0, .int .i64 0, .int .i64 0, .int .i64 0, .slice none 0 0, .slice none 0 0]
theorem ArN.below {W W' : World} {B : Nat} {a : Ar} {ca la : Option Addr} (h : ArN W B a ca la) (hb : Below W.heap.size W W') : ArN W' B a ca la := ⟨h.cs.below hb, h.ls.below hb⟩
theorem ArN.mono {W : World} {B B' : Nat} {a : Ar} {ca la : Option Addr} (h : ArN W B a ca la) (hb : B' ≤ B) : ArN W B' a ca la := ⟨h.cs.mono hb, h.ls.mono hb⟩
theorem may_len {a : Ar} (h : mayA a = true) : 1 ≤ a.cs.length ∧ a.cs.length ≤ 4096 ∧ a.ls.length ≤ 4096 := by
  simp only [mayA, Bool.and_eq_true] at h
  obtain ⟨h1, h2, _⟩ := h
  simp only [fromB, Bool.and_eq_true, decide_eq_true_eq] at h2
  refine ⟨by omega, by omega, ?_⟩
  unfold frameB at h1
  have hp : plainB a = true → a.ls.length ≤ 4096 := fun hp => by
    simp only [plainB, Bool.and_eq_true, beq_iff_eq] at hp
    omega
  split at h1
  · exact hp (Bool.and_eq_true .. ▸ h1).2
  · split at h1
    · exact hp (Bool.and_eq_true .. ▸ h1).2
    · split at h1
      · simp only [Bool.and_eq_true, ticksB, beq_iff_eq] at h1
        omega
      · cases h1
theorem findA_yes {k : Int} {a : Ar} {i : Nb} (h : (findA k a i).2 = 0) : a.kind = k ∧ mayA a = true ∧ i.ok = true ∧ i.hi = 0 ∧ i.lo < a.cs.length ∧ (findA k a i).1 = i.lo := by
  unfold findA at h ⊢
  split at h
  · rename_i h1
    rw [if_pos h1]
    simp only [Bool.and_eq_true, beq_iff_eq] at h1
    split at h
    · rename_i h2
      rw [if_pos h2]
      exact ⟨h1.1, h1.2.1, h1.2.2, h2.1, h2.2, rfl⟩
    · simp at h
  · simp at h
set_option maxRecDepth 100000 in
set_option maxHeartbeats 4000000 in
theorem read_any (x : ArL) (i : Nb) (w : World) (hx : ArR w x) (hi : NbR i) (c : Int) (hc : (findA 3 x.a i).2 = c) (v : Nb) (hv : v = if c = 0 then x.a.cs.getD i.lo.toNat nb0 else nb0) :
    Calls Try.prog 13 #[x.val, i.val] w fun e w' => e = .returned (.tuple #[v.val, .int .i64 c]) ∧ Below w.heap.size w w' := by
  have HF : Hid (∀ W, Below w.heap.size w W → _) := fun W hb => cfind_any 3 x i W (hx.below hb) hi (by decide)
  have HX := hide hx
  by_cases h0 : c = 0
  · subst h0
    obtain ⟨-, -, -, -, h5, h6⟩ := findA_yes hc
    rw [hc, h6] at HF
    have hp := hi.lo.1
    obtain ⟨k, hk⟩ := Int.eq_ofNat_of_zero_le hp
    have hk2 : k < x.a.cs.length := by omega
    have hkI : ((k : Int) < (x.a.cs.length : Int)) := by omega
    rw [if_pos rfl, hk, Int.toNat_natCast, List.getD_eq_getElem?_getD, List.getElem?_eq_getElem hk2, Option.getD_some] at hv
    have HC : Hid (∀ W, Below w.heap.size w W → ∃ p off, x.ca = some ⟨p, off, none⟩ ∧ W.cell? ⟨p, off + k * 3, none⟩ = some (.int .i64 v.w) ∧ W.cell? ⟨p, off + k * 3 + 1, none⟩ = some (.int .u64 v.hi) ∧ W.cell? ⟨p, off + k * 3 + 2, none⟩ = some (.int .u64 v.lo)) := fun W hb => by
      obtain ⟨p, off, e, _, hcl⟩ := (hx.cs.below hb).some (by omega)
      have := hcl k hk2
      rw [← hv] at this
      exact ⟨p, off, e, this⟩
    obtain ⟨⟨name, kind, aw, rate, burst, cs, ls⟩, ca, cc, la, lc⟩ := x
    obtain ⟨iw, ih, il⟩ := i
    obtain ⟨vw, vh, vl⟩ := v
    simp only [ArL.val, Nb.val] at *
    subst hk
    clear hx hi hc h5 h6 hp hv hk2 HX
    generalize cs.length = n1 at *
    generalize ls.length = n2 at *
    go_enter Try.func13, Try.ntmps13
    go_wp2_with fail
    refine (HF.out _ ?_).mono ?_
    · exact bstep (below3 _ _ _ _) (below1 _ _)
    rintro e w1 ⟨rfl, hb⟩
    have BB := hide (bstep (bstep (below3 _ _ _ _) (below1 _ _)) hb)
    have k3 := heap_below hb (heap_past _ (heap_trd _ _ _ _ _))
    obtain ⟨r0, r1, r2, r3⟩ := at3 k3
    have k4 := heap_below hb (heap_alloc_new (((w.alloc _).alloc _).alloc _) (.cells #[.string name, .int .u8 kind, .int .i64 aw, .int .i64 rate, .int .i64 burst, .slice ca n1 cc, .slice la n2 lc] 65))
    simp only [World.size_alloc] at k4
    obtain ⟨p0, p1, p2, p3, p4, p5, p6⟩ := at7 k4
    obtain ⟨p, off, rfl, q0, q1, q2⟩ := HC.out _ BB.out
    clear k3 k4 hb
    go_wp2
    refine bodyPost_ret (v := .tuple #[.agg #[.int .i64 vw, .int .u64 vh, .int .u64 vl], .int .i64 0]) (by simp [results, Try.results13, go_sem, r0, r1, r2]) rfl ⟨rfl, ?_⟩
    exact ((BB.out.setCell (by simp; omega) _).setCell (by simp; omega) _).setCell (by simp; omega) _
  · rw [if_neg h0] at hv
    subst hv
    have h1 : (c == 0) = false := by simp [h0]
    have h2 : (c = 0) = False := by simp [h0]
    rw [hc] at HF
    generalize (findA 3 x.a i).1 = d at *
    obtain ⟨⟨name, kind, aw, rate, burst, cs, ls⟩, ca, cc, la, lc⟩ := x
    obtain ⟨iw, ih, il⟩ := i
    simp only [ArL.val, Nb.val, nb0] at *
    clear hx hi hc h0 HX
    generalize cs.length = n1 at *
    generalize ls.length = n2 at *
    go_enter Try.func13, Try.ntmps13
    go_wp2_with fail
    refine (HF.out _ ?_).mono ?_
    · exact bstep (below3 _ _ _ _) (below1 _ _)
    rintro e w1 ⟨rfl, hb⟩
    have BB := hide (bstep (bstep (below3 _ _ _ _) (below1 _ _)) hb)
    have k3 := heap_below hb (heap_past _ (heap_trd _ _ _ _ _))
    obtain ⟨r0, r1, r2, r3⟩ := at3 k3
    clear k3 hb
    go_wp2
    refine bodyPost_ret (v := .tuple #[.agg #[.int .i64 0, .int .u64 0, .int .u64 0], .int .i64 c]) (by simp [results, Try.results13, go_sem, r0, r1, r2]) rfl ⟨rfl, ?_⟩
    exact ((BB.out.setCell (by simp; omega) _).setCell (by simp; omega) _).setCell (by simp; omega) _
end Go.Proofs.Ytngeclnlgoamkaa
