/- Pieces of the proof: PaKn, PaDe, PaPr, LP, LGd. -/
import Derived.Test.YtcfopkaomknmjaaGreatDoorM20
import Derived.Test.YtcfopkaomknmjaaGreatDoorM21
import Derived.Test.YtcfopkaomknmjaaGreatDoorM22
import Derived.Test.YtcfopkaomknmjaaGreatDoorM23
import Derived.Test.YtcfopkaomknmjaaGreatDoorM24
import Derived.Test.YtcfopkaomknmjaaGreatDoorM25
import Derived.Test.YtcfopkaomknmjaaGreatDoorM26
import Derived.Test.YtcfopkaomknmjaaGreatDoorM27
import Derived.Test.YtcfopkaomknmjaaGreatDoorM28
import Derived.Test.YtcfopkaomknmjaaGreatDoorM29
import Derived.Test.YtcfopkaomknmjaaGreatDoorM30
import Derived.Test.YtcfopkaomknmjaaGreatDoorM31
import Derived.Test.YtcfopkaomknmjaaGreatDoorM32
import Derived.Test.YtcfopkaomknmjaaGreatDoorM33
import Derived.Defers
import Derived.Recover
import Derived.Test.YtcfopkaomknmjaaGreatDoorM18
/- package parse: readers that go on; the knot of statements; declarations; the whole program. -/
namespace Go.Proofs.YtcfopkaomknmjaaGreatDoor
open Go.RowKit

theorem goes_untilF {α : Type} {en : List UInt8} {f : Pf α} (h : Stays f) : ∀ g, Goes (untilF en f g)
  | 0 => fun L k x k1 e => by rw [untilF] at e; cases e
  | g + 1 => fun L k x k1 e => by
    rw [untilF] at e
    split at e
    · cases e; omega
    · split at e
      · cases e
      · rename_i y k2 e2
        split at e
        · cases e
        · rename_i xs k3 e3
          have := h _ _ _ _ e2
          have := goes_untilF h g _ _ _ _ e3
          cases e; omega
theorem goes_until {α : Type} {en : List UInt8} {f : Pf α} (h : Stays f) : Goes (untilP en f) := fun L k x k1 e => goes_untilF h _ L k x k1 e
theorem goes_rows {α : Type} {en : List UInt8} {f : Pf α} (h : Stays f) : Goes (rowsP en f) := goes_until (stays_bind h fun _ => stays_bind (stays_pass _) fun _ => stays_ret _)
theorem stays_ifP {α : Type} {l : List UInt8} {a b : Pf α} (ha : Stays a) (hb : Stays b) : Stays (ifP l a b) := fun L k x k1 e => by
  unfold ifP at e
  split at e
  · have := ha _ _ _ _ e; omega
  · exact hb _ _ _ _ e
theorem goes_field : Goes fieldP := goes_bind nameP_goes fun _ => stays_bind wholeP_goes.stays fun _ => stays_ret _
theorem stays_kind : Stays kkP := stays_ifP (stays_ret _) (stays_ifP (stays_ret _) (stays_ifP (stays_ret _) (stays_bind (stays_pass _) fun _ => stays_ret _)))
theorem goes_key {ex : Pf Ex} (h : Goes ex) : Goes (keyP ex) := goes_bind h fun _ => stays_bind stays_kind fun _ => stays_ret _
theorem goes_case : Goes caseP := goes_bind goes_lit fun _ => stays_ifP (stays_bind goes_lit.stays fun _ => stays_bind (stays_pass _) fun _ => stays_bind nameP_goes.stays fun _ => stays_ret _) (stays_bind (stays_pass _) fun _ => stays_bind nameP_goes.stays fun _ => stays_ret _)
theorem stays_whF {α : Type} {sep : List UInt8} {f : Pf α} (h : Stays f) : ∀ g, Stays (whF sep f g)
  | 0 => fun L k x k1 e => by rw [whF] at e; cases e
  | g + 1 => fun L k x k1 e => by
    rw [whF] at e
    simp only at e
    split at e
    · split at e
      · cases e
      · rename_i y k2 e2
        split at e
        · cases e
        · rename_i xs k3 e3
          have := h _ _ _ _ e2
          have := stays_whF h g _ _ _ _ e3
          cases e; omega
    · cases e; exact Nat.le_refl _
theorem stays_whP {α : Type} {sep : List UInt8} {f : Pf α} (h : Stays f) : Stays (whP sep f) := fun L k x k1 e => stays_whF h _ L k x k1 e
theorem goes_state {ex : Pf Ex} {cp : Pf (List Ck)} (hx : Stays ex) (hc : Stays cp) : Goes (stateP ex cp) := fun L k x k1 e =>
  goes_bind nameP_goes (fun _ => stays_bind (stays_pass _) fun _ => stays_bind (stays_whP (closed_goes nameP_goes).stays) fun _ => stays_ifP (stays_bind hx fun _ => stays_bind (stays_pass _) fun _ => stays_bind hc fun _ => stays_bind (closed_goes nameP_goes).stays fun _ => stays_bind (stays_pass _) fun _ => stays_bind (stays_pass _) fun _ => stays_ret _) (stays_bind (stays_pass _) fun _ => stays_bind (closed_goes nameP_goes).stays fun _ => stays_bind (stays_pass _) fun _ => stays_ret _)) L k x k1 e
theorem stays_sm2 {α : Type} {f : Pf α} (h : Stays f) : ∀ g, Stays (sm2F f g)
  | 0 => fun L k x k1 e => by rw [sm2F] at e; cases e
  | g + 1 => fun L k x k1 e => by
    rw [sm2F] at e
    simp only at e
    split at e
    · split at e
      · cases e
      · rename_i y k2 e2
        split at e
        · cases e
        · rename_i xs k3 e3
          have := h _ _ _ _ e2
          have := stays_sm2 h g _ _ _ _ e3
          cases e; omega
    · cases e; exact Nat.le_refl _
theorem goes_some2 {α : Type} {f : Pf α} (h : Goes f) : Goes (some2P f) := fun L k x k1 e => by
  unfold some2P at e
  split at e
  · cases e
  · rename_i y k2 e2
    cases hs : sm2F f (L.length + 1 - k2) L k2 with
    | error e3 => rw [hs] at e; cases e
    | ok z =>
      obtain ⟨zs, k3⟩ := z
      have := stays_sm2 h.stays _ L k2 zs k3 hs
      have := h _ _ _ _ e2
      rw [hs] at e
      simp only [preL] at e
      cases e; omega
theorem goes_brack {α : Type} {so : Pf (List α)} (h : Stays so) : Goes (brackP so) := goes_bind (goes_pass _ _) fun _ => stays_ifP (stays_ret _) (stays_bind h fun _ => stays_bind (stays_pass _) fun _ => stays_ret _)
theorem goes_exprP : Goes exprP := fun L k x k1 e => goes_chainF _ 0 L k x k1 e
theorem goes_fields : Goes fieldsP := goes_bind (goes_pass _ _) fun _ => stays_bind (goes_rows goes_field.stays).stays fun _ => stays_ret _
theorem stays_cell {ex : Pf Ex} (h : Stays ex) : Stays (cellP ex) := stays_bind (stays_pass _) fun _ => stays_bind h fun _ => stays_bind (stays_pass _) fun _ => stays_ret _
theorem stays_ofField (kd : Nat) : Stays (ofFieldP kd) := stays_bind goes_owner.stays fun _ => stays_bind goes_fieldOf.stays fun _ => stays_ret _
/- The statements' table. -/
def brE : Pf (List Ex) := brackP (someP exprP)
def stRows (bl : Pf (List Sm)) : List (Rw Sm) := [⟨[105, 102], 53, ifElseP exprP bl⟩, ⟨[97, 112, 112, 108, 121], 54, ofNameP 3⟩, ⟨[109, 97, 107, 101], 55, ofNameP 5⟩, ⟨[103, 111, 110, 101], 56, ofNameP 6⟩, ⟨[99, 111, 117, 110, 116], 57, countP exprP⟩, ⟨[114, 101, 97, 100], 58, fromArrayP exprP 8⟩, ⟨[119, 114, 105, 116, 101], 59, writeP exprP⟩, ⟨[109, 101, 116, 101, 114], 60, fromArrayP exprP 10⟩, ⟨[114, 97, 110, 100, 111, 109], 61, randomP⟩, ⟨[100, 114, 111, 112], 62, bareP 12⟩, ⟨[97, 103, 97, 105, 110], 63, bareP 15⟩, ⟨[114, 111, 117, 110, 100], 64, bareP 16⟩, ⟨[100, 105, 103, 101, 115, 116], 65, digestP (someP exprP)⟩, ⟨[99, 108, 111, 110, 101], 66, cloneP⟩]
theorem stRows_keys (bl : Pf (List Sm)) : KeysOk (stRows bl) := ⟨by simp [stRows, List.pairwise_cons], by intro r hr; simp only [stRows, List.mem_cons, List.not_mem_nil, or_false] at hr; rcases hr with rfl | rfl | rfl | rfl | rfl | rfl | rfl | rfl | rfl | rfl | rfl | rfl | rfl | rfl <;> simp⟩
theorem stRows_map (bl : Pf (List Sm)) (p : Nat) : mkE p 0 (stRows bl) = mkK p 0 sKeys := by rw [mkE_mkK]; rfl
def stmtA (bl : Pf (List Sm)) : Pf Sm := stmtP (stRows bl) (setOrCallP exprP brE)
def blockF : Nat → Pf (List Sm)
  | 0 => fun _ k => .error k
  | f + 1 => blockP (untilP [125] (stmtA (blockF f)))
theorem goes_findK {α : Type} {rows : List (Rw α)} (h : ∀ r ∈ rows, Stays r.f) : ∀ {s : List UInt8} {f : Pf α}, findK rows s = some f → Stays f := by
  induction rows with
  | nil => intro s f e; cases e
  | cons r rs ih =>
    intro s f e
    rw [findK] at e
    split at e
    · injection e with e; subst e; exact h r (List.mem_cons_self ..)
    · exact ih (fun r hr => h r (List.mem_cons_of_mem _ hr)) e
theorem stays_setOrCall : Goes (setOrCallP exprP brE) := goes_bind goes_owner fun n => fun L k x k1 e => by
  unfold ifIs at e
  split at e
  · exact stays_bind (stays_bind (goes_brack (goes_some goes_exprP).stays).stays fun _ => stays_bind (stays_pass _) fun _ => stays_ret _) (fun _ => stays_ret _) L k x k1 e
  · exact stays_bind goes_fieldOf.stays (fun _ => stays_bind (stays_pass _) fun _ => stays_bind (closed_goes goes_exprP).stays fun _ => stays_ret _) L k x k1 e
theorem stays_stRows {bl : Pf (List Sm)} (hb : Stays bl) : ∀ r ∈ stRows bl, Stays r.f := by
  intro r hr
  simp only [stRows, List.mem_cons, List.not_mem_nil, or_false] at hr
  rcases hr with rfl | rfl | rfl | rfl | rfl | rfl | rfl | rfl | rfl | rfl | rfl | rfl | rfl | rfl
  · exact stays_bind goes_exprP.stays fun _ => stays_bind hb fun _ => stays_ifP (stays_bind hb fun _ => stays_ret _) (stays_ret _)
  · exact stays_bind (closed_goes nameP_goes).stays fun _ => stays_ret _
  · exact stays_bind (closed_goes nameP_goes).stays fun _ => stays_ret _
  · exact stays_bind (closed_goes nameP_goes).stays fun _ => stays_ret _
  · exact stays_bind nameP_goes.stays fun _ => stays_bind (stays_cell goes_exprP.stays) fun _ => stays_bind (stays_pass _) fun _ => stays_ret _
  · exact stays_bind (stays_ofField _) fun _ => stays_bind (stays_pass _) fun _ => stays_bind nameP_goes.stays fun _ => stays_bind (stays_cell goes_exprP.stays) fun _ => stays_bind (stays_pass _) fun _ => stays_ret _
  · exact stays_bind nameP_goes.stays fun _ => stays_bind (stays_cell goes_exprP.stays) fun _ => stays_bind (stays_pass _) fun _ => stays_bind (closed_goes goes_exprP).stays fun _ => stays_ret _
  · exact stays_bind (stays_ofField _) fun _ => stays_bind (stays_pass _) fun _ => stays_bind nameP_goes.stays fun _ => stays_bind (stays_cell goes_exprP.stays) fun _ => stays_bind (stays_pass _) fun _ => stays_ret _
  · exact stays_bind (stays_ofField _) fun _ => stays_bind (stays_pass _) fun _ => stays_ret _
  · exact stays_bind (stays_pass _) fun _ => stays_ret _
  · exact stays_bind (stays_pass _) fun _ => stays_ret _
  · exact stays_bind (stays_pass _) fun _ => stays_ret _
  · exact stays_bind (goes_some goes_exprP).stays fun _ => stays_bind (stays_pass _) fun _ => stays_ret _
  · exact stays_bind (closed_goes wholeP_goes).stays fun _ => stays_ret _
theorem goes_stmtA {bl : Pf (List Sm)} (hb : Stays bl) : Goes (stmtA bl) := fun L k x k1 e => by
  unfold stmtA stmtP at e
  split at e
  · rename_i f hf
    have := stays_bind (goes_findK (stays_stRows hb) hf) (fun s => stays_ret (smLn s (lineP L k))) L (k + 1) x k1 e
    omega
  · exact goes_bind stays_setOrCall (fun s => stays_ret (smLn s (lineP L k))) L k x k1 e
theorem goes_blockF : ∀ f, Goes (blockF f)
  | 0 => fun L k x k1 e => by rw [blockF] at e; cases e
  | f + 1 => by rw [blockF]; exact goes_bind (goes_pass _ _) fun _ => stays_bind (goes_until (goes_stmtA (goes_blockF f).stays).stays).stays fun _ => stays_ret _
theorem PfI.later {α : Type} {I : World → Prop} {F : Nat} {args : Array Value} {p q : Nat} {L : List (Wd × Nat)} {dm sm : Value} {k0 k1 : Nat} {f : Pf α} {rep : Rep α} (h : PfI I F args p q L dm sm k0 f rep) (hk : k0 ≤ k1) : PfI I F args p q L dm sm k1 f rep := fun W k' h1 r hi => h W k' (Nat.le_trans hk h1) r hi
/- What stands while a program is read. -/
def I0 (bt p db sb : Nat) : World → Prop := fun W => Twp W bt p ∧ W.heap[db]? = some (.map (mkK p 0 dKeys).toArray 10) ∧ W.heap[sb]? = some (.map (mkK p 0 sKeys).toArray 14) ∧ db ≠ p ∧ sb ≠ p
theorem i0_stb {bt p q db sb : Nat} {L : List (Wd × Nat)} {dm sm : Value} : Stb (I0 bt p db sb) p q L dm sm := fun _ _ _ r h => ⟨h.1.go r, (r.fr.block db (Array.getElem?_eq_some_iff.1 h.2.1).1 h.2.2.2.1).trans h.2.1, (r.fr.block sb (Array.getElem?_eq_some_iff.1 h.2.2.1).1 h.2.2.2.2).trans h.2.2.1, h.2.2.2.1, h.2.2.2.2⟩
theorem ent_ifElse : entP 53 := enters_of Tryz.func53 (by kernel_rfl) rfl
theorem ent_apply : entP 54 := enters_of Tryz.func54 (by kernel_rfl) rfl
theorem ent_make : entP 55 := enters_of Tryz.func55 (by kernel_rfl) rfl
theorem ent_gone : entP 56 := enters_of Tryz.func56 (by kernel_rfl) rfl
theorem ent_count : entP 57 := enters_of Tryz.func57 (by kernel_rfl) rfl
theorem ent_read : entP 58 := enters_of Tryz.func58 (by kernel_rfl) rfl
theorem ent_write : entP 59 := enters_of Tryz.func59 (by kernel_rfl) rfl
theorem ent_meterCell : entP 60 := enters_of Tryz.func60 (by kernel_rfl) rfl
theorem ent_random : entP 61 := enters_of Tryz.func61 (by kernel_rfl) rfl
theorem ent_drop : entP 62 := enters_of Tryz.func62 (by kernel_rfl) rfl
theorem ent_again : entP 63 := enters_of Tryz.func63 (by kernel_rfl) rfl
theorem ent_round : entP 64 := enters_of Tryz.func64 (by kernel_rfl) rfl
theorem ent_digest : entP 65 := enters_of Tryz.func65 (by kernel_rfl) rfl
theorem ent_clone : entP 66 := enters_of Tryz.func66 (by kernel_rfl) rfl
theorem block_any {bt p q db sb : Nat} {L : List (Wd × Nat)} {dm : Value} (hL : OkL L) : ∀ f k0, L.length ≤ f + k0 → PfI (I0 bt p db sb) 105 #[.pointer (some ⟨p, 0, none⟩)] p q L dm (.map (some sb)) k0 (blockF f) (ListR SmR mkAgg 9)
  | 0, k0, hk => fun W k' h1 r _ => by have := r.kl; omega
  | f + 1, k0, hk => by
    have hI : Stb (I0 bt p db sb) p q L dm (.map (some sb)) := i0_stb
    have HB := block_any (bt := bt) (p := p) (q := q) (db := db) (sb := sb) (dm := dm) hL f (k0 + 1) (by omega)
    have HX : PfI (I0 bt p db sb) 112 #[.pointer (some ⟨p, 0, none⟩)] p q L dm (.map (some sb)) 0 exprP ExR := fun W k' h r hi => expr_any hL 0 W k' h r hi.1
    have HCx : PfI (I0 bt p db sb) 117 #[.pointer (some ⟨p, 0, none⟩), .func (Fn.func 112) #[.pointer (some ⟨p, 0, none⟩)] #[]] p q L dm (.map (some sb)) 0 (closedP exprP) ExR := fun W k' h r hi => closed_expr hL (expr_any hL 0) W k' h r hi.1
    have HSo : PfI (I0 bt p db sb) 120 #[.pointer (some ⟨p, 0, none⟩), .func (Fn.func 112) #[.pointer (some ⟨p, 0, none⟩)] #[]] p q L dm (.map (some sb)) 0 (someP exprP) (ListR ExR mkAgg 10) := fun W k' h r hi => some_ok hL goes_exprP (expr_any hL 0) W k' h r hi.1
    have HCe := pcell_ok hL hI HX
    have HBe := brack_expr hL hI HSo
    have HSc := setOrCall_ok hL hI (fun n => call_ok (n := n) hL hI HBe) HCx
    have HIf := ifElse_ok (k0 := k0 + 1) hL hI goes_exprP (goes_blockF f).stays HX (HB.later (by omega))
    have z : ∀ {F : Nat} {f : Pf Sm}, PfI (I0 bt p db sb) F #[.pointer (some ⟨p, 0, none⟩)] p q L dm (.map (some sb)) 0 f SmR → PfI (I0 bt p db sb) F #[.pointer (some ⟨p, 0, none⟩)] p q L dm (.map (some sb)) (k0 + 1) f SmR := fun h => h.later (Nat.zero_le _)
    have hrows : ∀ r ∈ stRows (blockF f), entP r.g ∧ PfI (I0 bt p db sb) r.g #[.pointer (some ⟨p, 0, none⟩)] p q L dm (.map (some sb)) (k0 + 1) r.f SmR := by
      intro r hr
      simp only [stRows, List.mem_cons, List.not_mem_nil, or_false] at hr
      rcases hr with rfl | rfl | rfl | rfl | rfl | rfl | rfl | rfl | rfl | rfl | rfl | rfl | rfl | rfl
      · exact ⟨ent_ifElse, HIf⟩
      · exact ⟨ent_apply, z (apply_ok hL hI (ofName_ok (kd := 3) hL hI))⟩
      · exact ⟨ent_make, z (make_ok hL hI (ofName_ok (kd := 5) hL hI))⟩
      · exact ⟨ent_gone, z (gone_ok hL hI (ofName_ok (kd := 6) hL hI))⟩
      · exact ⟨ent_count, z (count_ok hL hI HCe)⟩
      · exact ⟨ent_read, z (read_ok hL hI (fromArray_ok (kd := 8) hL hI (ofField_ok (kd := 8) hL hI) HCe))⟩
      · exact ⟨ent_write, z (write_ok hL hI HCe HCx)⟩
      · exact ⟨ent_meterCell, z (meterCell_ok hL hI (fromArray_ok (kd := 10) hL hI (ofField_ok (kd := 10) hL hI) HCe))⟩
      · exact ⟨ent_random, z (random_ok hL hI (ofField_ok (kd := 11) hL hI))⟩
      · exact ⟨ent_drop, z (drop_ok hL hI (bare_ok (kd := 12) hL hI))⟩
      · exact ⟨ent_again, z (again_ok hL hI (bare_ok (kd := 15) hL hI))⟩
      · exact ⟨ent_round, z (round_ok hL hI (bare_ok (kd := 16) hL hI))⟩
      · exact ⟨ent_digest, z (digest_ok hL hI HSo)⟩
      · exact ⟨ent_clone, z (clone_ok hL hI)⟩
    have HSt := stmt_ok (k0 := k0) (sc := setOrCallP exprP brE) hL hI (fun W h => ⟨sb, rfl, by rw [stRows_map]; exact h.2.2.1⟩) (stRows_keys (blockF f)) hrows (HSc.later (Nat.zero_le _))
    have HUt := until_stmt (k0 := k0) hL hI (goes_stmtA (goes_blockF f).stays) [125] (by decide) ⟨#[125]⟩ rfl HSt
    rw [blockF]
    exact block_ok hL hI HUt
end Go.Proofs.YtcfopkaomknmjaaGreatDoor
/- package parse: declarations, and the program, of every row of words. -/
namespace Go.Proofs.YtcfopkaomknmjaaGreatDoor
open Go.RowKit

def blockA : Pf (List Sm) := fun L k => blockF (L.length - k) L k
def casesP : Pf (List Ck) := rowsP [101, 108, 115, 101] caseP
def keysP : Pf (List (Ex × Nat)) := rowsP [125] (keyP exprP)
def dcRows : List (Rw Dc) := [⟨[104, 101, 97, 100, 101, 114], 43, headerP⟩, ⟨[109, 101, 116, 97], 44, metaP⟩, ⟨[114, 101, 103, 105, 115, 116, 101, 114], 45, registerP⟩, ⟨[99, 111, 117, 110, 116, 101, 114], 46, counterP⟩, ⟨[109, 101, 116, 101, 114], 47, meterP⟩, ⟨[112, 97, 114, 115, 101, 114], 48, parserP (stateP exprP casesP)⟩, ⟨[97, 99, 116, 105, 111, 110], 49, actionP (brackP (some2P fieldP)) blockA⟩, ⟨[116, 97, 98, 108, 101], 50, tableP keysP (brackP (some2P litP))⟩, ⟨[99, 111, 110, 116, 114, 111, 108], 51, controlP blockA⟩, ⟨[100, 101, 112, 97, 114, 115, 101, 114], 52, deparserP⟩]
theorem dcRows_keys : KeysOk dcRows := ⟨by simp [dcRows, List.pairwise_cons], by intro r hr; simp only [dcRows, List.mem_cons, List.not_mem_nil, or_false] at hr; rcases hr with rfl | rfl | rfl | rfl | rfl | rfl | rfl | rfl | rfl | rfl <;> simp⟩
theorem dcRows_map (p : Nat) : mkE p 0 dcRows = mkK p 0 dKeys := by rw [mkE_mkK]; rfl
def declA : Pf Dc := declP dcRows
def progA : Pf (List Dc) := programP declA
theorem goes_blockA : Goes blockA := fun L k x k1 e => goes_blockF _ L k x k1 e
theorem stays_dcRows : ∀ r ∈ dcRows, Stays r.f := by
  intro r hr
  simp only [dcRows, List.mem_cons, List.not_mem_nil, or_false] at hr
  rcases hr with rfl | rfl | rfl | rfl | rfl | rfl | rfl | rfl | rfl | rfl
  · exact stays_bind nameP_goes.stays fun _ => stays_bind goes_fields.stays fun _ => stays_ret _
  · exact stays_bind goes_fields.stays fun _ => stays_ret _
  · exact stays_bind nameP_goes.stays fun _ => stays_bind wholeP_goes.stays fun _ => stays_bind (closed_goes wholeP_goes).stays fun _ => stays_ret _
  · exact stays_bind nameP_goes.stays fun _ => stays_bind (closed_goes wholeP_goes).stays fun _ => stays_ret _
  · exact stays_bind nameP_goes.stays fun _ => stays_bind wholeP_goes.stays fun _ => stays_bind wholeP_goes.stays fun _ => stays_bind (closed_goes wholeP_goes).stays fun _ => stays_ret _
  · exact stays_bind (stays_pass _) fun _ => stays_bind (goes_until (goes_state goes_exprP.stays (goes_rows goes_case.stays).stays).stays).stays fun _ => stays_ret _
  · exact stays_bind nameP_goes.stays fun _ => stays_bind (goes_brack (goes_some2 goes_field).stays).stays fun _ => stays_bind goes_blockA.stays fun _ => stays_ret _
  · exact stays_bind nameP_goes.stays fun _ => stays_bind (stays_pass _) fun _ => stays_bind (goes_rows (goes_key goes_exprP).stays).stays fun _ => stays_bind (stays_pass _) fun _ => stays_bind nameP_goes.stays fun _ => stays_bind (goes_until nameP_goes.stays).stays fun _ => stays_bind (stays_pass _) fun _ => stays_bind nameP_goes.stays fun _ => stays_bind (goes_brack (goes_some2 goes_lit).stays).stays fun _ => stays_bind (stays_pass _) fun _ => stays_bind (closed_goes wholeP_goes).stays fun _ => stays_bind (stays_pass _) fun _ => stays_ret _
  · exact stays_bind goes_blockA.stays fun _ => stays_ret _
  · exact stays_bind (stays_pass _) fun _ => stays_bind (goes_rows nameP_goes.stays).stays fun _ => stays_ret _
theorem goes_declA : Goes declA := fun L k x k1 e => by
  unfold declA declP at e
  split at e
  · rename_i f hf
    have := stays_bind (goes_findK stays_dcRows hf) (fun s => stays_ret (dcLn s (lineP L k))) L (k + 1) x k1 e
    omega
  · cases e
theorem ent_header : entP 43 := enters_of Tryz.func43 (by kernel_rfl) rfl
theorem ent_metadata : entP 44 := enters_of Tryz.func44 (by kernel_rfl) rfl
theorem ent_register : entP 45 := enters_of Tryz.func45 (by kernel_rfl) rfl
theorem ent_counter : entP 46 := enters_of Tryz.func46 (by kernel_rfl) rfl
theorem ent_meter : entP 47 := enters_of Tryz.func47 (by kernel_rfl) rfl
theorem ent_parser : entP 48 := enters_of Tryz.func48 (by kernel_rfl) rfl
theorem ent_action : entP 49 := enters_of Tryz.func49 (by kernel_rfl) rfl
theorem ent_table : entP 50 := enters_of Tryz.func50 (by kernel_rfl) rfl
theorem ent_control : entP 51 := enters_of Tryz.func51 (by kernel_rfl) rfl
theorem ent_deparser : entP 52 := enters_of Tryz.func52 (by kernel_rfl) rfl
theorem program_any {bt p q db sb : Nat} {L : List (Wd × Nat)} (hL : OkL L) : PfI (I0 bt p db sb) 18 #[.pointer (some ⟨p, 0, none⟩)] p q L (.map (some db)) (.map (some sb)) 0 progA (ListR DeclR mkAgg 15) := by
  have hI : Stb (I0 bt p db sb) p q L (.map (some db)) (.map (some sb)) := i0_stb
  have HX : PfI (I0 bt p db sb) 112 #[.pointer (some ⟨p, 0, none⟩)] p q L (.map (some db)) (.map (some sb)) 0 exprP ExR := fun W k' h r hi => expr_any hL 0 W k' h r hi.1
  have HBl : PfI (I0 bt p db sb) 105 #[.pointer (some ⟨p, 0, none⟩)] p q L (.map (some db)) (.map (some sb)) 0 blockA (ListR SmR mkAgg 9) := fun W k' _ r hi => block_any hL (L.length - k') k' (by omega) W k' (Nat.le_refl _) r hi
  -- fields
  have HRf := rows_field (k0 := 0) (en := [125]) (T := ⟨#[125]⟩) hI (fun b3 b5 => until_field hL (bx_stb hI b3 b5 _) (closed_goes goes_field) [125] (by decide) ⟨#[125]⟩ rfl (rows1_field hL hI (closed_field hL hI (field_i hL))))
  have HFl := fields_ok hL hI HRf
  -- keys
  have HKy := key_ok hL hI HX (kind_ok hL hI)
  have HRk := rows_key (k0 := 0) (en := [125]) (T := ⟨#[125]⟩) hI (fun b3 b5 => until_key hL (bx_stb hI b3 b5 _) (closed_goes (goes_key goes_exprP)) [125] (by decide) ⟨#[125]⟩ rfl (rows1_key hL hI (closed_key hL hI HKy)))
  -- cases, states
  have HRc := rows_case (k0 := 0) (en := [101, 108, 115, 101]) (T := ⟨#[101, 108, 115, 101]⟩) hI (fun b3 b5 => until_case hL (bx_stb hI b3 b5 _) (closed_goes goes_case) [101, 108, 115, 101] (by decide) ⟨#[101, 108, 115, 101]⟩ rfl (rows1_case hL hI (closed_case hL hI (caseOf_ok hL hI))))
  have HSt := state_ok hL hI HX HRc
  have HUt := until_state (k0 := 0) hL hI (goes_state goes_exprP.stays (goes_rows goes_case.stays).stays) [125] (by decide) ⟨#[125]⟩ rfl HSt
  -- names
  have HRs := rows_str (k0 := 0) (en := [125]) (T := ⟨#[125]⟩) hI (fun b3 b5 => until_str hL (bx_stb hI b3 b5 _) (closed_goes nameP_goes) [125] (by decide) ⟨#[125]⟩ rfl (rows1_str hL hI (cstr_i hL)))
  have HBf := brack_field hL hI (some_field (k0 := 0) hL hI goes_field (field_i hL))
  have HBb := brack_bits hL hI (some_bits (k0 := 0) hL hI goes_lit (lit_i hL))
  have z : ∀ {F : Nat} {f : Pf Dc}, PfI (I0 bt p db sb) F #[.pointer (some ⟨p, 0, none⟩)] p q L (.map (some db)) (.map (some sb)) 0 f DeclR → PfI (I0 bt p db sb) F #[.pointer (some ⟨p, 0, none⟩)] p q L (.map (some db)) (.map (some sb)) (0 + 1) f DeclR := fun h => h.later (Nat.zero_le _)
  have hrows : ∀ r ∈ dcRows, entP r.g ∧ PfI (I0 bt p db sb) r.g #[.pointer (some ⟨p, 0, none⟩)] p q L (.map (some db)) (.map (some sb)) (0 + 1) r.f DeclR := by
    intro r hr
    simp only [dcRows, List.mem_cons, List.not_mem_nil, or_false] at hr
    rcases hr with rfl | rfl | rfl | rfl | rfl | rfl | rfl | rfl | rfl | rfl
    · exact ⟨ent_header, z (header_ok hL hI HFl)⟩
    · exact ⟨ent_metadata, z (metadata_ok hL hI HFl)⟩
    · exact ⟨ent_register, z (register_ok hL hI)⟩
    · exact ⟨ent_counter, z (counter_ok hL hI)⟩
    · exact ⟨ent_meter, z (meter_ok hL hI)⟩
    · exact ⟨ent_parser, z (parser_ok hL hI HUt)⟩
    · exact ⟨ent_action, z (action_ok hL hI HBf HBl)⟩
    · exact ⟨ent_table, z (table_ok hL hI HRk HBb)⟩
    · exact ⟨ent_control, z (control_ok hL hI HBl)⟩
    · exact ⟨ent_deparser, z (deparser_ok hL hI HRs)⟩
  have HDc := decl_ok (k0 := 0) hL hI (fun W h => ⟨db, rfl, by rw [dcRows_map]; exact h.2.1⟩) dcRows_keys hrows
  exact program_ok hI goes_declA HDc
/- What a text is read as: its program, or a line and a word on what is wrong. -/
abbrev PRes := Except (Nat × Nat) (List Dc)
def parseL (s : List UInt8) : PRes := if 65536 < s.length then .error (0, 3) else match toks s with
  | .error k => .error (k, 4)
  | .ok xs => match progA (xs ++ [endW xs]) 0 with
    | .error k => .error (lineP (xs ++ [endW xs]) k, 5)
    | .ok (ds, _) => if limT ds then .error (0, 3) else .ok ds
end Go.Proofs.YtcfopkaomknmjaaGreatDoor
/- package parse: Parse's closure that catches. -/
namespace Go.Proofs.YtcfopkaomknmjaaGreatDoor
open Go.RowKit

theorem pcatch_idle (a b c d : Value) (w : World) :
    CallsD Tryz.prog 16 #[a, b, c, d] .returning w fun e u' w' => e = .returned (.tuple #[]) ∧ u' = .returning ∧ w' = w := by
  refine callsD_of_wpS Tryz.func16 rfl fun c₀ cs hu => ?_
  apply wpS_seq
  apply wpS_region
  simp [wpOpsS, go_sem, recoverD, hu, Tryz.ntmps16, Exit.thenS]
  refine wpS_cond (t := false) (by simp [Act.eval, Array.replicate]) ?_
  simp only [Bool.false_eq_true, if_false]
  refine wpS_of_wp (wp_skip ?_)
  cases c₀
  simp_all [bodyPostS, results, Tryz.results16]
set_option maxRecDepth 100000 in
set_option maxHeartbeats 4000000 in
theorem pcatch_panic {w : World} {p q : Nat} {L : List (Wd × Nat)} {k : Nat} {dm sm : Value} {b6 b2 b3 b4 : Nat} {x2 x3 x4 : Value} (h : Rp w w p q L k dm sm) (c6 : w.heap[b6]? = some (.cells #[.pointer (some ⟨p, 0, none⟩)] 53 (0, 0))) (c2 : w.heap[b2]? = some (.cells #[x2] 23 (0, 0))) (c3 : w.heap[b3]? = some (.cells #[x3] 3 (0, 0))) (c4 : w.heap[b4]? = some (.cells #[x4] 24 (0, 0))) (n23 : b2 ≠ b3) (n24 : b2 ≠ b4) (n34 : b3 ≠ b4) (older : List PanicEntry) :
    CallsD Tryz.prog 16 #[.pointer (some ⟨b6, 0, none⟩), .pointer (some ⟨b2, 0, none⟩), .pointer (some ⟨b3, 0, none⟩), .pointer (some ⟨b4, 0, none⟩)] (.panicking ({ v := .iface 150 (.agg #[]), recovered := false } :: older)) w fun e u' w' =>
      e = .returned (.tuple #[]) ∧ u' = .panicking ({ v := .iface 150 (.agg #[]), recovered := true } :: older) ∧ ∃ w1, Below w.heap.size w w1 ∧ w' = ((w1.setCell ⟨b2, 0, none⟩ (.slice none 0 0)).setCell ⟨b3, 0, none⟩ (.int .i64 (lineP L k : Int))).setCell ⟨b4, 0, none⟩ (.int .i64 5) := by
  have g6 := cellA c6 0
  have HA := hide (aheadL h)
  have HB2 : Hid (∀ W, Below w.heap.size w W → W.heap[b2]? = some (.cells #[x2] 23 (0, 0))) := fun W hb => (hb.block b2 (Array.getElem?_eq_some_iff.1 c2).1).trans c2
  have HB3 : Hid (∀ W, Below w.heap.size w W → W.heap[b3]? = some (.cells #[x3] 3 (0, 0))) := fun W hb => (hb.block b3 (Array.getElem?_eq_some_iff.1 c3).1).trans c3
  have HB4 : Hid (∀ W, Below w.heap.size w W → W.heap[b4]? = some (.cells #[x4] 24 (0, 0))) := fun W hb => (hb.block b4 (Array.getElem?_eq_some_iff.1 c4).1).trans c4
  obtain ⟨x, hx, _⟩ := h.word
  have HAh := hide (ahead_any h hx)
  have HLN : Hid ((x.2 : Int) = (lineP L k : Int)) := by unfold Hid lineP; rw [hx]
  unfold wdV at HAh
  obtain ⟨_, _, _, fl⟩ := fldW (.int .u8 (x.1.k : Int)) (.string (txt x.1.s)) (.int .i64 (x.1.w : Int)) (.int .u64 (wHi x.1.v)) (.int .u64 (wLo x.1.v)) (.int .i64 (x.2 : Int))
  rw [← HLN.out]
  generalize (x.2 : Int) = ln at *
  generalize txt x.1.s = a1 at *
  clear h c2 c3 c4 hx HA c6
  refine callsD_of_wpS Tryz.func16 rfl fun c₀ cs hu => ?_
  apply wpS_seq
  apply wpS_region
  simp [wpOpsS, go_sem, recoverD, hu, Tryz.ntmps16, Exit.thenS]
  refine wpS_cond (t := true) (by simp [Act.eval, Array.replicate]) ?_
  simp only [if_true]
  refine wpS_of_wp ?_
  go_wp2_with fail
  refine HAh.out.mono ?_
  rintro e w1 ⟨rfl, hb⟩
  have g2 := cellA (HB2.out _ hb) 0; have s2 := softA (HB2.out _ hb) 0
  have g3 := cellA (HB3.out _ hb) 0; have s3 := softA (HB3.out _ hb) 0
  have g4 := cellA (HB4.out _ hb) 0; have s4 := softA (HB4.out _ hb) 0
  have HBB := hide hb
  clear hb
  go_wp2
  simp [bodyPostS, results, Tryz.results16]
  exact ⟨w1, HBB.out, rfl⟩
end Go.Proofs.YtcfopkaomknmjaaGreatDoor
/- Words of two texts with a byte 10 between. -/
namespace Go.Proofs.YtcfopkaomknmjaaGreatDoor
open Go.RowKit

theorem tw_app {P : UInt8 → Bool} {r b : List UInt8} (hP : P 10 = false) : (r ++ 10 :: b).takeWhile P = r.takeWhile P ∧ (r ++ 10 :: b).dropWhile P = r.dropWhile P ++ 10 :: b := by
  induction r with
  | nil => simp [hP]
  | cons c r ih =>
    rw [List.cons_append, List.takeWhile_cons, List.takeWhile_cons, List.dropWhile_cons, List.dropWhile_cons, ih.1, ih.2]
    cases P c <;> simp
theorem db_app (r b : List UInt8) : (r ++ 10 :: b).dropWhile isBl = if r.dropWhile isBl = [] then b.dropWhile isBl else r.dropWhile isBl ++ 10 :: b := by
  induction r with
  | nil =>
    have h : isBl 10 = true := by decide +kernel
    simp [h]
  | cons c r ih =>
    rw [List.cons_append, List.dropWhile_cons, List.dropWhile_cons]
    cases isBl c
    · simp
    · simp only [if_true]; exact ih
theorem n10_10 : n10 10 = false := by decide +kernel
theorem isW_ten : isW 10 = false := by decide +kernel
theorem isRem_app {r b : List UInt8} (h : r ≠ []) : isRem (r ++ 10 :: b) = isRem r := by
  match r, h with
  | [c], _ => simp [isRem, Lib.hasPrefix, List.isPrefixOf]
  | c :: d :: r, _ => simp [isRem, Lib.hasPrefix, List.isPrefixOf]
theorem skR_nil : skR [] = [] := skR_no rfl
theorem skR_app (b : List UInt8) (r : List UInt8) (h : r ≠ []) : skR (r ++ 10 :: b) = if skR r = [] then skip b else skR r ++ 10 :: b := by
  induction hn : r.length using Nat.strongRecOn generalizing r with
  | _ n ih =>
    cases hr : isRem r with
    | false =>
      rw [skR_no (by rw [isRem_app h]; exact hr), skR_no hr, if_neg h]
    | true =>
      rw [skR_yes (by rw [isRem_app h]; exact hr), skR_yes hr, (tw_app n10_10).2, db_app]
      by_cases he : (r.dropWhile n10).dropWhile isBl = []
      · rw [if_pos he, he, skR_nil, if_pos rfl]; rfl
      · rw [if_neg he]
        exact ih _ (by rw [← hn]; exact rem_less hr) _ he rfl
theorem skip_app (r b : List UInt8) : skip (r ++ 10 :: b) = if skip r = [] then skip b else skip r ++ 10 :: b := by
  unfold skip
  rw [db_app]
  by_cases he : r.dropWhile isBl = []
  · rw [if_pos he, he, skR_nil, if_pos rfl]
  · rw [if_neg he]
    exact skR_app b _ he
theorem sgn_app {r b : List UInt8} : sgn (r ++ 10 :: b) = sgn r := by
  have h10 : ∀ s ∈ sgs, (10 : UInt8) ∉ s := by decide +kernel
  unfold sgn
  congr 1
  have key : ∀ s : List UInt8, (10 : UInt8) ∉ s → s.isPrefixOf (r ++ 10 :: b) = s.isPrefixOf r := fun s hs => by
    cases h : s.isPrefixOf r with
    | true =>
      rw [List.isPrefixOf_iff_prefix] at h ⊢
      exact h.trans (List.prefix_append _ _)
    | false =>
      cases h2 : s.isPrefixOf (r ++ 10 :: b) with
      | false => rfl
      | true =>
        rw [List.isPrefixOf_iff_prefix] at h2
        exfalso
        rcases Nat.lt_or_ge r.length s.length with hl | hl
        · obtain ⟨t, ht⟩ := h2
          have e : (s ++ t)[r.length]? = some 10 := by rw [ht]; simp
          rw [List.getElem?_append_left hl] at e
          exact hs (List.mem_of_getElem? e)
        · have : s <+: r := List.prefix_of_prefix_length_le h2 (List.prefix_append _ _) hl
          rw [← List.isPrefixOf_iff_prefix, h] at this
          cases this
  generalize sgs = l at h10
  induction l with
  | nil => rfl
  | cons s l ih =>
    rw [List.find?_cons, List.find?_cons, key s (h10 s (by simp)), ih (fun x hx => h10 x (by simp [hx]))]
theorem wdA_app (r b : List UInt8) : wdA (r ++ 10 :: b) = ((wdA r).1, (wdA r).2 ++ 10 :: b) := by
  unfold wdA
  rw [(tw_app isW_ten).1, (tw_app isW_ten).2]
  cases r.takeWhile isW with
  | nil =>
    simp only [wd1]
    rw [sgn_app, List.drop_append_of_le_length (sgn_pre _).2]
  | cons c l =>
    unfold wd1
    simp only
    split
    · split <;> rfl
    · rfl
theorem drop_c10 (P : UInt8 → Bool) (l : List UInt8) : c10 (l.dropWhile P) ≤ c10 l := by have := dropW_c10 P l; omega
theorem skR_c10 (r : List UInt8) : c10 (skR r) ≤ c10 r := by
  induction hn : r.length using Nat.strongRecOn generalizing r with
  | _ n ih =>
    cases h : isRem r with
    | false => rw [skR_no h]; exact Nat.le_refl _
    | true =>
      rw [skR_yes h]
      exact Nat.le_trans (ih _ (by rw [← hn]; exact rem_less h) _ rfl) (Nat.le_trans (drop_c10 _ _) (drop_c10 _ _))
theorem skip_c10 (r : List UInt8) : c10 (skip r) ≤ c10 r := Nat.le_trans (skR_c10 _) (drop_c10 _ _)
def LR.then (x : LR) (f : List (Wd × Nat) → LR) : LR := match x with | .error k => .error k | .ok ws => f ws
theorem LR.app_then (a : List (Wd × Nat)) (x y : LR) : LR.app a (x.then fun ws => LR.app ws y) = (LR.app a x).then fun ws => LR.app ws y := by
  cases x with
  | error k => rfl
  | ok ws => exact LR.app_app a ws y
theorem tk_app (b : List UInt8) (r : List UInt8) (n : Nat) (h : r ≠ []) :
    tk (r ++ 10 :: b) n = (tk r n).then fun ws => LR.app ws (tk (skip b) (n + c10 r + 1 + c10 b - c10 (skip b))) := by
  induction hl : r.length using Nat.strongRecOn generalizing r n with
  | _ m ih =>
    have hne : r ++ 10 :: b ≠ [] := by simp
    cases hw : wdA r with
    | mk o r' =>
      have hw2 := wdA_app r b
      rw [hw] at hw2
      have hc := wdA_c10 r
      rw [hw] at hc
      simp only at hw2 hc
      cases o with
      | none => rw [tk_none hne hw2, tk_none h hw]; rfl
      | some x =>
        have hless := wdA_less hw
        have hsk := skip_le r'
        have hcJ : c10 (r' ++ 10 :: b) = c10 r' + 1 + c10 b := by rw [c10_app]; simp [c10]; omega
        rw [tk_some hne hw2, tk_some h hw, skip_app, hcJ]
        by_cases he : skip r' = []
        · rw [if_pos he, he, tk_nil, hc]
          simp only [LR.then, LR.app, List.append_nil]
          congr 2; omega
        · have hcS : c10 (skip r' ++ 10 :: b) = c10 (skip r') + 1 + c10 b := by rw [c10_app]; simp [c10]; omega
          have hcl := skip_c10 r'
          rw [if_neg he, hcS, show n + (c10 r' + 1 + c10 b) - (c10 (skip r') + 1 + c10 b) = n + c10 r' - c10 (skip r') by omega]
          rw [ih _ (by rw [← hl]; omega) _ _ he rfl, LR.app_then]
          congr 2
          funext ws
          congr 2
          rw [← hc]; omega
/- lines further down. -/
def LR.shift (d : Nat) : LR → LR
  | .error k => .error (k + d)
  | .ok ws => .ok (ws.map fun x => (x.1, x.2 + d))
theorem LR.shift_app (d : Nat) (a : List (Wd × Nat)) (x : LR) : LR.shift d (LR.app a x) = LR.app (a.map fun x => (x.1, x.2 + d)) (LR.shift d x) := by
  cases x with
  | error k => rfl
  | ok ws => simp [LR.app, LR.shift]
theorem tk_shift (r : List UInt8) (n d : Nat) : tk r (n + d) = LR.shift d (tk r n) := by
  induction hl : r.length using Nat.strongRecOn generalizing r n with
  | _ m ih =>
    by_cases h : r = []
    · rw [h, tk_nil, tk_nil]; rfl
    · cases hw : wdA r with
      | mk o r' =>
        cases o with
        | none => rw [tk_none h hw, tk_none h hw]; rfl
        | some x =>
          have hless := wdA_less hw
          have hsk := skip_le r'
          have hc := skip_c10 r'
          rw [tk_some h hw, tk_some h hw, LR.shift_app, show n + d + c10 r' - c10 (skip r') = (n + c10 r' - c10 (skip r')) + d by omega, ih _ (by rw [← hl]; omega) _ _ rfl]
          rfl
theorem toks_join (a b : List UInt8) : toks (a ++ 10 :: b) = (toks a).then fun ws => LR.app ws (LR.shift (c10 a + 1) (toks b)) := by
  unfold toks
  have hcJ : c10 (a ++ 10 :: b) = c10 a + 1 + c10 b := by rw [c10_app]; simp [c10]; omega
  have ha := skip_c10 a
  have hb := skip_c10 b
  rw [skip_app, hcJ, ← tk_shift]
  by_cases he : skip a = []
  · rw [if_pos he, he, tk_nil]
    simp only [LR.then]
    rw [LR.app_nil]
    congr 1; omega
  · have hcS : c10 (skip a ++ 10 :: b) = c10 (skip a) + 1 + c10 b := by rw [c10_app]; simp [c10]; omega
    rw [if_neg he, hcS, show c10 a + 1 + c10 b - (c10 (skip a) + 1 + c10 b) = c10 a - c10 (skip a) by omega, tk_app b _ _ he]
    congr 2
    funext ws
    congr 2
    omega
end Go.Proofs.YtcfopkaomknmjaaGreatDoor
/- What a word of a text can be. -/
namespace Go.Proofs.YtcfopkaomknmjaaGreatDoor
open Go.RowKit

def Good (x : Wd) : Prop := (∃ c l, x = ⟨1, c :: l, 0, 0⟩ ∧ (∀ y ∈ c :: l, isW y = true) ∧ isD c = false ∧ (c :: l).length ≤ 255) ∨ (∃ n, x = ⟨2, [], 64, n⟩ ∧ n ≤ 2147483647) ∨ (∃ n v, x = ⟨3, [], n, v⟩ ∧ okN (n : Int) v = true) ∨ (∃ j, j < 27 ∧ x = ⟨4, sgs.getD j [], 0, 0⟩)
theorem sgn_mem {r : List UInt8} (h : sgn r ≠ []) : ∃ j, j < 27 ∧ sgn r = sgs.getD j [] := by
  unfold sgn at h ⊢
  cases hf : sgs.find? (fun s => s.isPrefixOf r) with
  | none => rw [hf] at h; exact absurd rfl h
  | some s =>
    have hm := List.mem_of_find?_eq_some hf
    obtain ⟨j, hj, e⟩ := List.mem_iff_getElem.1 hm
    refine ⟨j, hj, ?_⟩
    simp [List.getD, List.getElem?_eq_getElem hj, e]
theorem tw_all {P : UInt8 → Bool} : ∀ (l : List UInt8), ∀ y ∈ l.takeWhile P, P y = true
  | [], y, h => by simp at h
  | c :: l, y, h => by
    rw [List.takeWhile_cons] at h
    split at h
    · rename_i hc
      rcases List.mem_cons.1 h with rfl | h
      · exact hc
      · exact tw_all l y h
    · simp at h
theorem wdA_good {r r' : List UInt8} {x : Wd} (h : wdA r = (some x, r')) : Good x := by
  unfold wdA at h
  have hall := tw_all (P := isW) r
  cases hr : r.takeWhile isW with
  | nil =>
    rw [hr] at h
    simp only [wd1, Prod.mk.injEq] at h
    obtain ⟨h1, _⟩ := h
    unfold signW at h1
    split at h1
    · cases h1
    · rename_i hne
      injection h1 with h1
      obtain ⟨j, hj, e⟩ := sgn_mem hne
      exact .inr (.inr (.inr ⟨j, hj, by rw [← h1, e]⟩))
  | cons c l =>
    rw [hr] at h hall
    unfold wd1 at h
    simp only at h
    split at h
    · split at h
      · have h1 := (Prod.mk.inj h).1
        unfold wholeW at h1
        split at h1
        · rename_i n hn
          split at h1
          · injection h1 with h1
            exact .inr (.inl ⟨n, h1.symm, puE_lt31 hn⟩)
          · cases h1
        · cases h1
      · have h1 := (Prod.mk.inj h).1
        unfold numW at h1
        split at h1
        · rename_i n v hp
          injection h1 with h1
          exact .inr (.inr (.inl ⟨n, v, h1.symm, (prs_some hp).1⟩))
        · cases h1
    · rename_i hD
      have h1 := (Prod.mk.inj h).1
      unfold nameW at h1
      split at h1
      · rename_i hlen
        injection h1 with h1
        exact .inl ⟨c, l, h1.symm, hall, by simpa using hD, hlen⟩
      · cases h1
theorem tk_good : ∀ (m : Nat) (r : List UInt8) (n : Nat) (xs : List (Wd × Nat)), r.length = m → tk r n = .ok xs → (∀ x ∈ xs, Good x.1 ∧ n ≤ x.2) ∧ xs.Pairwise (fun a b => a.2 ≤ b.2) := by
  intro m
  induction m using Nat.strongRecOn with
  | _ m ih =>
    intro r n xs hm h
    by_cases h0 : r = []
    · rw [h0, tk_nil] at h; cases h; exact ⟨fun x hx => by simp at hx, List.Pairwise.nil⟩
    · cases hw : wdA r with
      | mk o r' =>
        cases o with
        | none => rw [tk_none h0 hw] at h; cases h
        | some y =>
          have hless := wdA_less hw
          have hsk := skip_le r'
          have hc := skip_c10 r'
          rw [tk_some h0 hw] at h
          cases ht : tk (skip r') (n + c10 r' - c10 (skip r')) with
          | error k => rw [ht] at h; cases h
          | ok ws =>
            rw [ht] at h
            cases h
            obtain ⟨i1, i2⟩ := ih _ (by omega) _ _ _ rfl ht
            refine ⟨fun x hx => ?_, List.Pairwise.cons (fun b hb => ?_) i2⟩
            · rcases List.mem_cons.1 hx with rfl | hx
              · exact ⟨wdA_good hw, Nat.le_refl _⟩
              · have := i1 x hx; exact ⟨this.1, by omega⟩
            · have := (i1 b hb).2
              show n ≤ b.2
              omega
theorem toks_good {s : List UInt8} {xs : List (Wd × Nat)} (h : toks s = .ok xs) : (∀ x ∈ xs, Good x.1) ∧ xs.Pairwise (fun a b => a.2 ≤ b.2) := by
  have := tk_good _ _ _ _ rfl h
  exact ⟨fun x hx => (this.1 x hx).1, this.2⟩
end Go.Proofs.YtcfopkaomknmjaaGreatDoor
