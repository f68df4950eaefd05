/- package queue: is an effect a clone of a group that is not there. -/
import Derived.Test.YtnihneicoikdhaaGreatDoorQuD
namespace Go.Proofs.YtnihneicoikdhaaGreatDoor
open Go.RowKit

/- A list of structs that can be read, cell by cell. -/
def RdG {α : Type} (f : α → List Value) (c : Nat) (W : World) (a : Option Addr) (l : List α) : Prop := l = [] ∨ ∃ p off, a = some ⟨p, off, none⟩ ∧ p < W.heap.size ∧ ∀ i (h : i < l.length) j u, (f l[i])[j]? = some u → W.cell? ⟨p, off + i * c + j, none⟩ = some u
theorem RdG.below {α : Type} {f : α → List Value} {c : Nat} {W W' : World} {a : Option Addr} {l : List α} (h : RdG f c W a l) (hb : Below W.heap.size W W') : RdG f c W' a l := by
  rcases h with h | ⟨p, off, rfl, hp, hc⟩
  · exact .inl h
  · exact .inr ⟨p, off, rfl, Nat.lt_of_lt_of_le hp hb.size, fun i hi j u hu => (hb.cell (p := ⟨p, _, none⟩) hp).trans (hc i hi j u hu)⟩
theorem RdG.get {α : Type} {f : α → List Value} {c : Nat} {W : World} {a : Option Addr} {l : List α} (h : RdG f c W a l) (hx : 0 < l.length) : ∃ p off, a = Option.some ⟨p, off, none⟩ ∧ p < W.heap.size ∧ ∀ i (h : i < l.length) j u, (f l[i])[j]? = some u → W.cell? ⟨p, off + i * c + j, none⟩ = some u := by
  rcases h with rfl | h
  · simp at hx
  · exact h
structure Ef where
  kind : Int
  array : ByteArray
  cell : Int
  vw : Int
  vh : Int
  vl : Int
  da : Option Addr
  dn : Nat
  dc : Nat
  group : Int
  table : ByteArray
  entry : Int
def Ef.cells (e : Ef) : List Value := [.int .u8 e.kind, .string e.array, .int .i64 e.cell, .int .i64 e.vw, .int .u64 e.vh, .int .u64 e.vl, .slice e.da e.dn e.dc, .int .i64 e.group, .string e.table, .int .i64 e.entry]
theorem ef_len (e : Ef) : e.cells.length = 10 := rfl
theorem aggEf : ∀ w, (isAgg 108).run Tryz.prog w = .ok true w := fun w => by kernel_rfl
theorem szEf : ∀ w, (sizeOf 108).run Tryz.prog w = .ok 10 w := fun w => by kernel_rfl
def isCl (e : Ef) : Bool := e.kind == 7
def asks (n : Nat) (e : Ef) : Bool := isCl e && (decide (e.group < 0) || decide (e.group ≥ n))
theorem isClone_any (e : Ef) (w : World) : Calls Tryz.prog 197 #[.agg e.cells.toArray] w fun x w' => x = .returned (.bool (isCl e)) ∧ Below w.heap.size w w' := by
  have c0 : (w.alloc (.cells e.cells.toArray 108)).cell? ⟨w.heap.size, 0, none⟩ = some (.int .u8 e.kind) := cellA (heap_alloc_new w _) 0
  unfold isCl
  generalize e.cells.toArray = cs at *
  generalize e.kind = k at *
  go_enter Tryz.func197, Tryz.ntmps197
  go_wp2
  go_ret
  exact ⟨rfl, below1 _ _⟩
set_option maxHeartbeats 1000000 in
theorem asks_any (e : Ef) (ga : Option Addr) (gn gc : Nat) (w : World) : Calls Tryz.prog 128 #[.slice ga gn gc, .agg e.cells.toArray] w fun x w' => x = .returned (.bool (asks gn e)) ∧ Below w.heap.size w w' := by
  have HI : Hid (∀ W, _) := fun W => isClone_any e W
  have HC7 : Hid (∀ W, Below (w.alloc (.cells e.cells.toArray 108)).heap.size (w.alloc (.cells e.cells.toArray 108)) W → W.cell? ⟨w.heap.size, 7, none⟩ = some (.int .i64 e.group)) := fun W hb => cellA (heap_below hb (heap_alloc_new w _)) 7
  have HL : Hid (e.cells.length = 10) := rfl
  unfold asks
  generalize isCl e = t at *
  generalize e.group = k at *
  generalize e.cells = cs at *
  have HB := hide (below1 w (.cells cs.toArray 108))
  cases t with
  | false =>
    go_enter Tryz.func128, Tryz.ntmps128
    go_wp2_with (refine wpList_loadA rfl 108 _ rfl w.heap.size cs 108 rfl aggEf (by rw [HL.out]; exact szEf) (heap_alloc_new w _) ?_)
    refine (HI.out _).mono ?_
    rintro x w2 ⟨rfl, hb⟩
    go_wp2
    go_ret
    exact ⟨rfl, bstep HB.out hb⟩
  | true =>
    by_cases h1 : k < 0
    · have e1 : decide (k < 0) = true := by simpa using h1
      go_enter Tryz.func128, Tryz.ntmps128
      go_wp2_with (refine wpList_loadA rfl 108 _ rfl w.heap.size cs 108 rfl aggEf (by rw [HL.out]; exact szEf) (heap_alloc_new w _) ?_)
      refine (HI.out _).mono ?_
      rintro x w2 ⟨rfl, hb⟩
      have c7 := HC7.out _ hb
      go_wp2
      go_ret
      exact ⟨by simp [e1], bstep HB.out hb⟩
    · have e1 : decide (k < 0) = false := by simpa using h1
      obtain ⟨d, hd⟩ : ∃ d, d = decide (k ≥ (gn : Int)) := ⟨_, rfl⟩
      have hd' := hide hd
      have e2 : decide (k ≥ (gn : Int)) = d := hd.symm
      have e3 : decide ((gn : Int) ≤ k) = d := hd.symm
      clear hd
      go_enter Tryz.func128, Tryz.ntmps128
      go_wp2_with (refine wpList_loadA rfl 108 _ rfl w.heap.size cs 108 rfl aggEf (by rw [HL.out]; exact szEf) (heap_alloc_new w _) ?_)
      refine (HI.out _).mono ?_
      rintro x w2 ⟨rfl, hb⟩
      have c7 := HC7.out _ hb
      go_wp2
      go_ret
      exact ⟨by simp [e1, e3], bstep HB.out hb⟩
/- The function value: its groups lie in a cell. -/
def GrS (W : World) (gb : Nat) (ga : Option Addr) (gn gc : Nat) : Prop := W.heap[gb]? = some (.cells #[.slice ga gn gc] 85 (0, 0))
theorem at1 {W : World} {b : Nat} {x : Value} {t : TypeId} (h : W.heap[b]? = some (.cells #[x] t (0, 0))) : W.cell? ⟨b, 0, none⟩ = some x := cellA h 0
theorem clos_any (e : Ef) (gb : Nat) (ga : Option Addr) (gn gc : Nat) (w : World) (hg : GrS w gb ga gn gc) : Calls Tryz.prog 127 #[.agg e.cells.toArray, .pointer (some ⟨gb, 0, none⟩)] w fun x w' => x = .returned (.bool (asks gn e)) ∧ Below w.heap.size w w' := by
  have HA : Hid (∀ W, _) := fun W => asks_any e ga gn gc W
  have HL : Hid (e.cells.length = 10) := rfl
  have c0 := at1 (heap_past (.cells e.cells.toArray 108) hg)
  generalize asks gn e = t at *
  generalize e.cells = cs at *
  have HB := hide (below1 w (.cells cs.toArray 108))
  clear hg
  go_enter Tryz.func127, Tryz.ntmps127
  go_wp2_with (refine wpList_loadA rfl 108 _ rfl w.heap.size cs 108 rfl aggEf (by rw [HL.out]; exact szEf) (heap_alloc_new w _) ?_)
  refine (HA.out _).mono ?_
  rintro x w2 ⟨rfl, hb⟩
  go_wp2
  go_ret
  exact ⟨rfl, bstep HB.out hb⟩
set_option maxHeartbeats 1000000 in
theorem indexEf_any (a : Option Addr) (cap : Nat) (l : List Ef) (gb : Nat) (ga : Option Addr) (gn gc : Nat) (w : World) (hr : RdG Ef.cells 10 w a l) (hl : l.length ≤ 140737488355328) (hg : GrS w gb ga gn gc) : Calls Tryz.prog 196 #[.slice a l.length cap, .func (.func 127) #[] #[.pointer (some ⟨gb, 0, none⟩)]] w fun e w' => e = .returned (.int .i64 (firstI (asks gn) l)) ∧ Below w.heap.size w w' := by
  have HR := hide hr
  have HC : Hid (∀ e W, Below w.heap.size w W → _) := fun e W hb => clos_any e gb ga gn gc W (heap_below hb hg)
  clear hr hg
  go_enter Tryz.func196, Tryz.ntmps196
  go_wp2
  go_loopw [8] (fun i wr => ∃ k : Nat, k ≤ l.length ∧ i = .int .i64 k ∧ (∀ j (hj : j < k) (hj' : j < l.length), asks gn l[j] = false) ∧ Below w.heap.size w wr) (fun i _ => l.length - (intOf i).toNat)
  case atStart => exact ⟨0, by omega, rfl, fun j hj => absurd hj (by omega), Below.refl _ _⟩
  case round =>
    obtain ⟨k, hk, rfl, hn, hb⟩ := hrel
    have HN := hide hn
    have HW := hide hb
    clear hn hb
    by_cases hlt : k < l.length
    · obtain ⟨p, off, rfl, hp, hcl⟩ := (HR.out.below HW.out).get (by omega)
      have hlI : (k : Int) < (l.length : Int) := by omega
      have HCC := hide (HC.out l[k] wr HW.out)
      have HS : Hid (∀ j u, (l[k].cells)[j]? = some u → wr.cell? ⟨p, off + k * 10 + j, none⟩ = some u) := hcl k hlt
      have HL : Hid ((l[k].cells).length = 10) := rfl
      clear hcl
      cases ho : asks gn l[k]
      · have HX : Hid (∀ j (hj : j < k + 1) (hj' : j < l.length), asks gn l[j] = false) := fun j hj hj' => by
          by_cases e : j = k
          · subst e; exact ho
          · exact HN.out j (by omega) hj'
        rw [ho] at HCC
        clear ho
        generalize (l[k].cells) = cs at *
        go_wp2_with (refine wpList_loadW rfl 108 _ rfl p (off + k * 10) cs rfl aggEf (by rw [HL.out]; exact szEf) HS.out ?_)
        refine HCC.out.mono ?_
        rintro e w1 ⟨rfl, hb⟩
        go_wp2
        go_roundw
        case rel => exact ⟨k + 1, by omega, by go_num, HX.out, bstep HW.out hb⟩
        case measure => simp [intOf]; omega
      · have HH := hide (firstI_hit (p := asks gn) hlt ho (fun j hj => HN.out j hj (by omega)))
        rw [ho] at HCC
        clear ho
        generalize (l[k].cells) = cs at *
        go_wp2_with (refine wpList_loadW rfl 108 _ rfl p (off + k * 10) cs rfl aggEf (by rw [HL.out]; exact szEf) HS.out ?_)
        refine HCC.out.mono ?_
        rintro e w1 ⟨rfl, hb⟩
        go_wp2
        go_ret
        exact ⟨by rw [HH.out]; rfl, bstep HW.out hb⟩
    · obtain rfl : k = l.length := by omega
      have HH := hide (firstI_none (p := asks gn) (l := l) (fun j hj => HN.out j hj hj))
      go_wp2
      go_ret
      exact ⟨by rw [HH.out]; rfl, HW.out⟩
theorem containsEf_any (a : Option Addr) (cap : Nat) (l : List Ef) (gb : Nat) (ga : Option Addr) (gn gc : Nat) (w : World) (hr : RdG Ef.cells 10 w a l) (hl : l.length ≤ 140737488355328) (hg : GrS w gb ga gn gc) : Calls Tryz.prog 126 #[.slice a l.length cap, .func (.func 127) #[] #[.pointer (some ⟨gb, 0, none⟩)]] w fun e w' => e = .returned (.bool (l.any (asks gn))) ∧ Below w.heap.size w w' := by
  have H := hide (indexEf_any a cap l gb ga gn gc w hr hl hg)
  have E := hide (firstI_any (asks gn) l)
  clear hr hl hg
  go_enter Tryz.func126, Tryz.ntmps126
  go_wp2_with (go_at_call 196; refine H.out.mono ?_; rintro e w1 ⟨rfl, hb⟩)
  go_ret
  exact ⟨by rw [← E.out]; simp, hb⟩
end Go.Proofs.YtnihneicoikdhaaGreatDoor
