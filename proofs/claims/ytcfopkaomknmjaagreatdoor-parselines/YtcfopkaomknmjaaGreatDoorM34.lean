/- Pieces of the proof: PaKn, PaDe. -/
import Derived.Test.YtcfopkaomknmjaaGreatDoorM20
import Derived.Test.YtcfopkaomknmjaaGreatDoorM21
import Derived.Test.YtcfopkaomknmjaaGreatDoorM22
import Derived.Test.YtcfopkaomknmjaaGreatDoorM23
import Derived.Test.YtcfopkaomknmjaaGreatDoorM24
import Derived.Test.YtcfopkaomknmjaaGreatDoorM25
import Derived.Test.YtcfopkaomknmjaaGreatDoorM26
import Derived.Test.YtcfopkaomknmjaaGreatDoorM27
import Derived.Test.YtcfopkaomknmjaaGreatDoorM28
import Derived.Test.YtcfopkaomknmjaaGreatDoorM29
import Derived.Test.YtcfopkaomknmjaaGreatDoorM30
import Derived.Test.YtcfopkaomknmjaaGreatDoorM31
import Derived.Test.YtcfopkaomknmjaaGreatDoorM32
import Derived.Test.YtcfopkaomknmjaaGreatDoorM33
/- package parse: readers that go on; the knot of statements; declarations; the whole program. -/
namespace Go.Proofs.YtcfopkaomknmjaaGreatDoor
open Go.RowKit

theorem goes_untilF {α : Type} {en : List UInt8} {f : Pf α} (h : Stays f) : ∀ g, Goes (untilF en f g)
  | 0 => fun L k x k1 e => by rw [untilF] at e; cases e
  | g + 1 => fun L k x k1 e => by
    rw [untilF] at e
    split at e
    · cases e; omega
    · split at e
      · cases e
      · rename_i y k2 e2
        split at e
        · cases e
        · rename_i xs k3 e3
          have := h _ _ _ _ e2
          have := goes_untilF h g _ _ _ _ e3
          cases e; omega
theorem goes_until {α : Type} {en : List UInt8} {f : Pf α} (h : Stays f) : Goes (untilP en f) := fun L k x k1 e => goes_untilF h _ L k x k1 e
theorem goes_rows {α : Type} {en : List UInt8} {f : Pf α} (h : Stays f) : Goes (rowsP en f) := goes_until (stays_bind h fun _ => stays_bind (stays_pass _) fun _ => stays_ret _)
theorem stays_ifP {α : Type} {l : List UInt8} {a b : Pf α} (ha : Stays a) (hb : Stays b) : Stays (ifP l a b) := fun L k x k1 e => by
  unfold ifP at e
  split at e
  · have := ha _ _ _ _ e; omega
  · exact hb _ _ _ _ e
theorem goes_field : Goes fieldP := goes_bind nameP_goes fun _ => stays_bind wholeP_goes.stays fun _ => stays_ret _
theorem stays_kind : Stays kkP := stays_ifP (stays_ret _) (stays_ifP (stays_ret _) (stays_ifP (stays_ret _) (stays_bind (stays_pass _) fun _ => stays_ret _)))
theorem goes_key {ex : Pf Ex} (h : Goes ex) : Goes (keyP ex) := goes_bind h fun _ => stays_bind stays_kind fun _ => stays_ret _
theorem goes_case : Goes caseP := goes_bind goes_lit fun _ => stays_ifP (stays_bind goes_lit.stays fun _ => stays_bind (stays_pass _) fun _ => stays_bind nameP_goes.stays fun _ => stays_ret _) (stays_bind (stays_pass _) fun _ => stays_bind nameP_goes.stays fun _ => stays_ret _)
theorem stays_whF {α : Type} {sep : List UInt8} {f : Pf α} (h : Stays f) : ∀ g, Stays (whF sep f g)
  | 0 => fun L k x k1 e => by rw [whF] at e; cases e
  | g + 1 => fun L k x k1 e => by
    rw [whF] at e
    simp only at e
    split at e
    · split at e
      · cases e
      · rename_i y k2 e2
        split at e
        · cases e
        · rename_i xs k3 e3
          have := h _ _ _ _ e2
          have := stays_whF h g _ _ _ _ e3
          cases e; omega
    · cases e; exact Nat.le_refl _
theorem stays_whP {α : Type} {sep : List UInt8} {f : Pf α} (h : Stays f) : Stays (whP sep f) := fun L k x k1 e => stays_whF h _ L k x k1 e
theorem goes_state {ex : Pf Ex} {cp : Pf (List Ck)} (hx : Stays ex) (hc : Stays cp) : Goes (stateP ex cp) := fun L k x k1 e =>
  goes_bind nameP_goes (fun _ => stays_bind (stays_pass _) fun _ => stays_bind (stays_whP (closed_goes nameP_goes).stays) fun _ => stays_ifP (stays_bind hx fun _ => stays_bind (stays_pass _) fun _ => stays_bind hc fun _ => stays_bind (closed_goes nameP_goes).stays fun _ => stays_bind (stays_pass _) fun _ => stays_bind (stays_pass _) fun _ => stays_ret _) (stays_bind (stays_pass _) fun _ => stays_bind (closed_goes nameP_goes).stays fun _ => stays_bind (stays_pass _) fun _ => stays_ret _)) L k x k1 e
theorem stays_sm2 {α : Type} {f : Pf α} (h : Stays f) : ∀ g, Stays (sm2F f g)
  | 0 => fun L k x k1 e => by rw [sm2F] at e; cases e
  | g + 1 => fun L k x k1 e => by
    rw [sm2F] at e
    simp only at e
    split at e
    · split at e
      · cases e
      · rename_i y k2 e2
        split at e
        · cases e
        · rename_i xs k3 e3
          have := h _ _ _ _ e2
          have := stays_sm2 h g _ _ _ _ e3
          cases e; omega
    · cases e; exact Nat.le_refl _
theorem goes_some2 {α : Type} {f : Pf α} (h : Goes f) : Goes (some2P f) := fun L k x k1 e => by
  unfold some2P at e
  split at e
  · cases e
  · rename_i y k2 e2
    cases hs : sm2F f (L.length + 1 - k2) L k2 with
    | error e3 => rw [hs] at e; cases e
    | ok z =>
      obtain ⟨zs, k3⟩ := z
      have := stays_sm2 h.stays _ L k2 zs k3 hs
      have := h _ _ _ _ e2
      rw [hs] at e
      simp only [preL] at e
      cases e; omega
theorem goes_brack {α : Type} {so : Pf (List α)} (h : Stays so) : Goes (brackP so) := goes_bind (goes_pass _ _) fun _ => stays_ifP (stays_ret _) (stays_bind h fun _ => stays_bind (stays_pass _) fun _ => stays_ret _)
theorem goes_exprP : Goes exprP := fun L k x k1 e => goes_chainF _ 0 L k x k1 e
theorem goes_fields : Goes fieldsP := goes_bind (goes_pass _ _) fun _ => stays_bind (goes_rows goes_field.stays).stays fun _ => stays_ret _
theorem stays_cell {ex : Pf Ex} (h : Stays ex) : Stays (cellP ex) := stays_bind (stays_pass _) fun _ => stays_bind h fun _ => stays_bind (stays_pass _) fun _ => stays_ret _
theorem stays_ofField (kd : Nat) : Stays (ofFieldP kd) := stays_bind goes_owner.stays fun _ => stays_bind goes_fieldOf.stays fun _ => stays_ret _
/- The statements' table. -/
def brE : Pf (List Ex) := brackP (someP exprP)
def stRows (bl : Pf (List Sm)) : List (Rw Sm) := [⟨[105, 102], 53, ifElseP exprP bl⟩, ⟨[97, 112, 112, 108, 121], 54, ofNameP 3⟩, ⟨[109, 97, 107, 101], 55, ofNameP 5⟩, ⟨[103, 111, 110, 101], 56, ofNameP 6⟩, ⟨[99, 111, 117, 110, 116], 57, countP exprP⟩, ⟨[114, 101, 97, 100], 58, fromArrayP exprP 8⟩, ⟨[119, 114, 105, 116, 101], 59, writeP exprP⟩, ⟨[109, 101, 116, 101, 114], 60, fromArrayP exprP 10⟩, ⟨[114, 97, 110, 100, 111, 109], 61, randomP⟩, ⟨[100, 114, 111, 112], 62, bareP 12⟩, ⟨[97, 103, 97, 105, 110], 63, bareP 15⟩, ⟨[114, 111, 117, 110, 100], 64, bareP 16⟩, ⟨[100, 105, 103, 101, 115, 116], 65, digestP (someP exprP)⟩, ⟨[99, 108, 111, 110, 101], 66, cloneP⟩]
theorem stRows_keys (bl : Pf (List Sm)) : KeysOk (stRows bl) := ⟨by simp [stRows, List.pairwise_cons], by intro r hr; simp only [stRows, List.mem_cons, List.not_mem_nil, or_false] at hr; rcases hr with rfl | rfl | rfl | rfl | rfl | rfl | rfl | rfl | rfl | rfl | rfl | rfl | rfl | rfl <;> simp⟩
theorem stRows_map (bl : Pf (List Sm)) (p : Nat) : mkE p 0 (stRows bl) = mkK p 0 sKeys := by rw [mkE_mkK]; rfl
def stmtA (bl : Pf (List Sm)) : Pf Sm := stmtP (stRows bl) (setOrCallP exprP brE)
def blockF : Nat → Pf (List Sm)
  | 0 => fun _ k => .error k
  | f + 1 => blockP (untilP [125] (stmtA (blockF f)))
theorem goes_findK {α : Type} {rows : List (Rw α)} (h : ∀ r ∈ rows, Stays r.f) : ∀ {s : List UInt8} {f : Pf α}, findK rows s = some f → Stays f := by
  induction rows with
  | nil => intro s f e; cases e
  | cons r rs ih =>
    intro s f e
    rw [findK] at e
    split at e
    · injection e with e; subst e; exact h r (List.mem_cons_self ..)
    · exact ih (fun r hr => h r (List.mem_cons_of_mem _ hr)) e
theorem stays_setOrCall : Goes (setOrCallP exprP brE) := goes_bind goes_owner fun n => fun L k x k1 e => by
  unfold ifIs at e
  split at e
  · exact stays_bind (stays_bind (goes_brack (goes_some goes_exprP).stays).stays fun _ => stays_bind (stays_pass _) fun _ => stays_ret _) (fun _ => stays_ret _) L k x k1 e
  · exact stays_bind goes_fieldOf.stays (fun _ => stays_bind (stays_pass _) fun _ => stays_bind (closed_goes goes_exprP).stays fun _ => stays_ret _) L k x k1 e
theorem stays_stRows {bl : Pf (List Sm)} (hb : Stays bl) : ∀ r ∈ stRows bl, Stays r.f := by
  intro r hr
  simp only [stRows, List.mem_cons, List.not_mem_nil, or_false] at hr
  rcases hr with rfl | rfl | rfl | rfl | rfl | rfl | rfl | rfl | rfl | rfl | rfl | rfl | rfl | rfl
  · exact stays_bind goes_exprP.stays fun _ => stays_bind hb fun _ => stays_ifP (stays_bind hb fun _ => stays_ret _) (stays_ret _)
  · exact stays_bind (closed_goes nameP_goes).stays fun _ => stays_ret _
  · exact stays_bind (closed_goes nameP_goes).stays fun _ => stays_ret _
  · exact stays_bind (closed_goes nameP_goes).stays fun _ => stays_ret _
  · exact stays_bind nameP_goes.stays fun _ => stays_bind (stays_cell goes_exprP.stays) fun _ => stays_bind (stays_pass _) fun _ => stays_ret _
  · exact stays_bind (stays_ofField _) fun _ => stays_bind (stays_pass _) fun _ => stays_bind nameP_goes.stays fun _ => stays_bind (stays_cell goes_exprP.stays) fun _ => stays_bind (stays_pass _) fun _ => stays_ret _
  · exact stays_bind nameP_goes.stays fun _ => stays_bind (stays_cell goes_exprP.stays) fun _ => stays_bind (stays_pass _) fun _ => stays_bind (closed_goes goes_exprP).stays fun _ => stays_ret _
  · exact stays_bind (stays_ofField _) fun _ => stays_bind (stays_pass _) fun _ => stays_bind nameP_goes.stays fun _ => stays_bind (stays_cell goes_exprP.stays) fun _ => stays_bind (stays_pass _) fun _ => stays_ret _
  · exact stays_bind (stays_ofField _) fun _ => stays_bind (stays_pass _) fun _ => stays_ret _
  · exact stays_bind (stays_pass _) fun _ => stays_ret _
  · exact stays_bind (stays_pass _) fun _ => stays_ret _
  · exact stays_bind (stays_pass _) fun _ => stays_ret _
  · exact stays_bind (goes_some goes_exprP).stays fun _ => stays_bind (stays_pass _) fun _ => stays_ret _
  · exact stays_bind (closed_goes wholeP_goes).stays fun _ => stays_ret _
theorem goes_stmtA {bl : Pf (List Sm)} (hb : Stays bl) : Goes (stmtA bl) := fun L k x k1 e => by
  unfold stmtA stmtP at e
  split at e
  · rename_i f hf
    have := stays_bind (goes_findK (stays_stRows hb) hf) (fun s => stays_ret (smLn s (lineP L k))) L (k + 1) x k1 e
    omega
  · exact goes_bind stays_setOrCall (fun s => stays_ret (smLn s (lineP L k))) L k x k1 e
theorem goes_blockF : ∀ f, Goes (blockF f)
  | 0 => fun L k x k1 e => by rw [blockF] at e; cases e
  | f + 1 => by rw [blockF]; exact goes_bind (goes_pass _ _) fun _ => stays_bind (goes_until (goes_stmtA (goes_blockF f).stays).stays).stays fun _ => stays_ret _
theorem PfI.later {α : Type} {I : World → Prop} {F : Nat} {args : Array Value} {p q : Nat} {L : List (Wd × Nat)} {dm sm : Value} {k0 k1 : Nat} {f : Pf α} {rep : Rep α} (h : PfI I F args p q L dm sm k0 f rep) (hk : k0 ≤ k1) : PfI I F args p q L dm sm k1 f rep := fun W k' h1 r hi => h W k' (Nat.le_trans hk h1) r hi
/- What stands while a program is read. -/
def I0 (bt p db sb : Nat) : World → Prop := fun W => Twp W bt p ∧ W.heap[db]? = some (.map (mkK p 0 dKeys).toArray 10) ∧ W.heap[sb]? = some (.map (mkK p 0 sKeys).toArray 14) ∧ db ≠ p ∧ sb ≠ p
theorem i0_stb {bt p q db sb : Nat} {L : List (Wd × Nat)} {dm sm : Value} : Stb (I0 bt p db sb) p q L dm sm := fun _ _ _ r h => ⟨h.1.go r, (r.fr.block db (Array.getElem?_eq_some_iff.1 h.2.1).1 h.2.2.2.1).trans h.2.1, (r.fr.block sb (Array.getElem?_eq_some_iff.1 h.2.2.1).1 h.2.2.2.2).trans h.2.2.1, h.2.2.2.1, h.2.2.2.2⟩
theorem ent_ifElse : entP 53 := enters_of Tryz.func53 (by kernel_rfl) rfl
theorem ent_apply : entP 54 := enters_of Tryz.func54 (by kernel_rfl) rfl
theorem ent_make : entP 55 := enters_of Tryz.func55 (by kernel_rfl) rfl
theorem ent_gone : entP 56 := enters_of Tryz.func56 (by kernel_rfl) rfl
theorem ent_count : entP 57 := enters_of Tryz.func57 (by kernel_rfl) rfl
theorem ent_read : entP 58 := enters_of Tryz.func58 (by kernel_rfl) rfl
theorem ent_write : entP 59 := enters_of Tryz.func59 (by kernel_rfl) rfl
theorem ent_meterCell : entP 60 := enters_of Tryz.func60 (by kernel_rfl) rfl
theorem ent_random : entP 61 := enters_of Tryz.func61 (by kernel_rfl) rfl
theorem ent_drop : entP 62 := enters_of Tryz.func62 (by kernel_rfl) rfl
theorem ent_again : entP 63 := enters_of Tryz.func63 (by kernel_rfl) rfl
theorem ent_round : entP 64 := enters_of Tryz.func64 (by kernel_rfl) rfl
theorem ent_digest : entP 65 := enters_of Tryz.func65 (by kernel_rfl) rfl
theorem ent_clone : entP 66 := enters_of Tryz.func66 (by kernel_rfl) rfl
theorem block_any {bt p q db sb : Nat} {L : List (Wd × Nat)} {dm : Value} (hL : OkL L) : ∀ f k0, L.length ≤ f + k0 → PfI (I0 bt p db sb) 105 #[.pointer (some ⟨p, 0, none⟩)] p q L dm (.map (some sb)) k0 (blockF f) (ListR SmR mkAgg 9)
  | 0, k0, hk => fun W k' h1 r _ => by have := r.kl; omega
  | f + 1, k0, hk => by
    have hI : Stb (I0 bt p db sb) p q L dm (.map (some sb)) := i0_stb
    have HB := block_any (bt := bt) (p := p) (q := q) (db := db) (sb := sb) (dm := dm) hL f (k0 + 1) (by omega)
    have HX : PfI (I0 bt p db sb) 112 #[.pointer (some ⟨p, 0, none⟩)] p q L dm (.map (some sb)) 0 exprP ExR := fun W k' h r hi => expr_any hL 0 W k' h r hi.1
    have HCx : PfI (I0 bt p db sb) 117 #[.pointer (some ⟨p, 0, none⟩), .func (Fn.func 112) #[.pointer (some ⟨p, 0, none⟩)] #[]] p q L dm (.map (some sb)) 0 (closedP exprP) ExR := fun W k' h r hi => closed_expr hL (expr_any hL 0) W k' h r hi.1
    have HSo : PfI (I0 bt p db sb) 120 #[.pointer (some ⟨p, 0, none⟩), .func (Fn.func 112) #[.pointer (some ⟨p, 0, none⟩)] #[]] p q L dm (.map (some sb)) 0 (someP exprP) (ListR ExR mkAgg 10) := fun W k' h r hi => some_ok hL goes_exprP (expr_any hL 0) W k' h r hi.1
    have HCe := pcell_ok hL hI HX
    have HBe := brack_expr hL hI HSo
    have HSc := setOrCall_ok hL hI (fun n => call_ok (n := n) hL hI HBe) HCx
    have HIf := ifElse_ok (k0 := k0 + 1) hL hI goes_exprP (goes_blockF f).stays HX (HB.later (by omega))
    have z : ∀ {F : Nat} {f : Pf Sm}, PfI (I0 bt p db sb) F #[.pointer (some ⟨p, 0, none⟩)] p q L dm (.map (some sb)) 0 f SmR → PfI (I0 bt p db sb) F #[.pointer (some ⟨p, 0, none⟩)] p q L dm (.map (some sb)) (k0 + 1) f SmR := fun h => h.later (Nat.zero_le _)
    have hrows : ∀ r ∈ stRows (blockF f), entP r.g ∧ PfI (I0 bt p db sb) r.g #[.pointer (some ⟨p, 0, none⟩)] p q L dm (.map (some sb)) (k0 + 1) r.f SmR := by
      intro r hr
      simp only [stRows, List.mem_cons, List.not_mem_nil, or_false] at hr
      rcases hr with rfl | rfl | rfl | rfl | rfl | rfl | rfl | rfl | rfl | rfl | rfl | rfl | rfl | rfl
      · exact ⟨ent_ifElse, HIf⟩
      · exact ⟨ent_apply, z (apply_ok hL hI (ofName_ok (kd := 3) hL hI))⟩
      · exact ⟨ent_make, z (make_ok hL hI (ofName_ok (kd := 5) hL hI))⟩
      · exact ⟨ent_gone, z (gone_ok hL hI (ofName_ok (kd := 6) hL hI))⟩
      · exact ⟨ent_count, z (count_ok hL hI HCe)⟩
      · exact ⟨ent_read, z (read_ok hL hI (fromArray_ok (kd := 8) hL hI (ofField_ok (kd := 8) hL hI) HCe))⟩
      · exact ⟨ent_write, z (write_ok hL hI HCe HCx)⟩
      · exact ⟨ent_meterCell, z (meterCell_ok hL hI (fromArray_ok (kd := 10) hL hI (ofField_ok (kd := 10) hL hI) HCe))⟩
      · exact ⟨ent_random, z (random_ok hL hI (ofField_ok (kd := 11) hL hI))⟩
      · exact ⟨ent_drop, z (drop_ok hL hI (bare_ok (kd := 12) hL hI))⟩
      · exact ⟨ent_again, z (again_ok hL hI (bare_ok (kd := 15) hL hI))⟩
      · exact ⟨ent_round, z (round_ok hL hI (bare_ok (kd := 16) hL hI))⟩
      · exact ⟨ent_digest, z (digest_ok hL hI HSo)⟩
      · exact ⟨ent_clone, z (clone_ok hL hI)⟩
    have HSt := stmt_ok (k0 := k0) (sc := setOrCallP exprP brE) hL hI (fun W h => ⟨sb, rfl, by rw [stRows_map]; exact h.2.2.1⟩) (stRows_keys (blockF f)) hrows (HSc.later (Nat.zero_le _))
    have HUt := until_stmt (k0 := k0) hL hI (goes_stmtA (goes_blockF f).stays) [125] (by decide) ⟨#[125]⟩ rfl HSt
    rw [blockF]
    exact block_ok hL hI HUt
end Go.Proofs.YtcfopkaomknmjaaGreatDoor
/- package parse: declarations, and the program, of every row of words. -/
namespace Go.Proofs.YtcfopkaomknmjaaGreatDoor
open Go.RowKit

def blockA : Pf (List Sm) := fun L k => blockF (L.length - k) L k
def casesP : Pf (List Ck) := rowsP [101, 108, 115, 101] caseP
def keysP : Pf (List (Ex × Nat)) := rowsP [125] (keyP exprP)
def dcRows : List (Rw Dc) := [⟨[104, 101, 97, 100, 101, 114], 43, headerP⟩, ⟨[109, 101, 116, 97], 44, metaP⟩, ⟨[114, 101, 103, 105, 115, 116, 101, 114], 45, registerP⟩, ⟨[99, 111, 117, 110, 116, 101, 114], 46, counterP⟩, ⟨[109, 101, 116, 101, 114], 47, meterP⟩, ⟨[112, 97, 114, 115, 101, 114], 48, parserP (stateP exprP casesP)⟩, ⟨[97, 99, 116, 105, 111, 110], 49, actionP (brackP (some2P fieldP)) blockA⟩, ⟨[116, 97, 98, 108, 101], 50, tableP keysP (brackP (some2P litP))⟩, ⟨[99, 111, 110, 116, 114, 111, 108], 51, controlP blockA⟩, ⟨[100, 101, 112, 97, 114, 115, 101, 114], 52, deparserP⟩]
theorem dcRows_keys : KeysOk dcRows := ⟨by simp [dcRows, List.pairwise_cons], by intro r hr; simp only [dcRows, List.mem_cons, List.not_mem_nil, or_false] at hr; rcases hr with rfl | rfl | rfl | rfl | rfl | rfl | rfl | rfl | rfl | rfl <;> simp⟩
theorem dcRows_map (p : Nat) : mkE p 0 dcRows = mkK p 0 dKeys := by rw [mkE_mkK]; rfl
def declA : Pf Dc := declP dcRows
def progA : Pf (List Dc) := programP declA
theorem goes_blockA : Goes blockA := fun L k x k1 e => goes_blockF _ L k x k1 e
theorem stays_dcRows : ∀ r ∈ dcRows, Stays r.f := by
  intro r hr
  simp only [dcRows, List.mem_cons, List.not_mem_nil, or_false] at hr
  rcases hr with rfl | rfl | rfl | rfl | rfl | rfl | rfl | rfl | rfl | rfl
  · exact stays_bind nameP_goes.stays fun _ => stays_bind goes_fields.stays fun _ => stays_ret _
  · exact stays_bind goes_fields.stays fun _ => stays_ret _
  · exact stays_bind nameP_goes.stays fun _ => stays_bind wholeP_goes.stays fun _ => stays_bind (closed_goes wholeP_goes).stays fun _ => stays_ret _
  · exact stays_bind nameP_goes.stays fun _ => stays_bind (closed_goes wholeP_goes).stays fun _ => stays_ret _
  · exact stays_bind nameP_goes.stays fun _ => stays_bind wholeP_goes.stays fun _ => stays_bind wholeP_goes.stays fun _ => stays_bind (closed_goes wholeP_goes).stays fun _ => stays_ret _
  · exact stays_bind (stays_pass _) fun _ => stays_bind (goes_until (goes_state goes_exprP.stays (goes_rows goes_case.stays).stays).stays).stays fun _ => stays_ret _
  · exact stays_bind nameP_goes.stays fun _ => stays_bind (goes_brack (goes_some2 goes_field).stays).stays fun _ => stays_bind goes_blockA.stays fun _ => stays_ret _
  · exact stays_bind nameP_goes.stays fun _ => stays_bind (stays_pass _) fun _ => stays_bind (goes_rows (goes_key goes_exprP).stays).stays fun _ => stays_bind (stays_pass _) fun _ => stays_bind nameP_goes.stays fun _ => stays_bind (goes_until nameP_goes.stays).stays fun _ => stays_bind (stays_pass _) fun _ => stays_bind nameP_goes.stays fun _ => stays_bind (goes_brack (goes_some2 goes_lit).stays).stays fun _ => stays_bind (stays_pass _) fun _ => stays_bind (closed_goes wholeP_goes).stays fun _ => stays_bind (stays_pass _) fun _ => stays_ret _
  · exact stays_bind goes_blockA.stays fun _ => stays_ret _
  · exact stays_bind (stays_pass _) fun _ => stays_bind (goes_rows nameP_goes.stays).stays fun _ => stays_ret _
theorem goes_declA : Goes declA := fun L k x k1 e => by
  unfold declA declP at e
  split at e
  · rename_i f hf
    have := stays_bind (goes_findK stays_dcRows hf) (fun s => stays_ret (dcLn s (lineP L k))) L (k + 1) x k1 e
    omega
  · cases e
theorem ent_header : entP 43 := enters_of Tryz.func43 (by kernel_rfl) rfl
theorem ent_metadata : entP 44 := enters_of Tryz.func44 (by kernel_rfl) rfl
theorem ent_register : entP 45 := enters_of Tryz.func45 (by kernel_rfl) rfl
theorem ent_counter : entP 46 := enters_of Tryz.func46 (by kernel_rfl) rfl
theorem ent_meter : entP 47 := enters_of Tryz.func47 (by kernel_rfl) rfl
theorem ent_parser : entP 48 := enters_of Tryz.func48 (by kernel_rfl) rfl
theorem ent_action : entP 49 := enters_of Tryz.func49 (by kernel_rfl) rfl
theorem ent_table : entP 50 := enters_of Tryz.func50 (by kernel_rfl) rfl
theorem ent_control : entP 51 := enters_of Tryz.func51 (by kernel_rfl) rfl
theorem ent_deparser : entP 52 := enters_of Tryz.func52 (by kernel_rfl) rfl
theorem program_any {bt p q db sb : Nat} {L : List (Wd × Nat)} (hL : OkL L) : PfI (I0 bt p db sb) 18 #[.pointer (some ⟨p, 0, none⟩)] p q L (.map (some db)) (.map (some sb)) 0 progA (ListR DeclR mkAgg 15) := by
  have hI : Stb (I0 bt p db sb) p q L (.map (some db)) (.map (some sb)) := i0_stb
  have HX : PfI (I0 bt p db sb) 112 #[.pointer (some ⟨p, 0, none⟩)] p q L (.map (some db)) (.map (some sb)) 0 exprP ExR := fun W k' h r hi => expr_any hL 0 W k' h r hi.1
  have HBl : PfI (I0 bt p db sb) 105 #[.pointer (some ⟨p, 0, none⟩)] p q L (.map (some db)) (.map (some sb)) 0 blockA (ListR SmR mkAgg 9) := fun W k' _ r hi => block_any hL (L.length - k') k' (by omega) W k' (Nat.le_refl _) r hi
  -- fields
  have HRf := rows_field (k0 := 0) (en := [125]) (T := ⟨#[125]⟩) hI (fun b3 b5 => until_field hL (bx_stb hI b3 b5 _) (closed_goes goes_field) [125] (by decide) ⟨#[125]⟩ rfl (rows1_field hL hI (closed_field hL hI (field_i hL))))
  have HFl := fields_ok hL hI HRf
  -- keys
  have HKy := key_ok hL hI HX (kind_ok hL hI)
  have HRk := rows_key (k0 := 0) (en := [125]) (T := ⟨#[125]⟩) hI (fun b3 b5 => until_key hL (bx_stb hI b3 b5 _) (closed_goes (goes_key goes_exprP)) [125] (by decide) ⟨#[125]⟩ rfl (rows1_key hL hI (closed_key hL hI HKy)))
  -- cases, states
  have HRc := rows_case (k0 := 0) (en := [101, 108, 115, 101]) (T := ⟨#[101, 108, 115, 101]⟩) hI (fun b3 b5 => until_case hL (bx_stb hI b3 b5 _) (closed_goes goes_case) [101, 108, 115, 101] (by decide) ⟨#[101, 108, 115, 101]⟩ rfl (rows1_case hL hI (closed_case hL hI (caseOf_ok hL hI))))
  have HSt := state_ok hL hI HX HRc
  have HUt := until_state (k0 := 0) hL hI (goes_state goes_exprP.stays (goes_rows goes_case.stays).stays) [125] (by decide) ⟨#[125]⟩ rfl HSt
  -- names
  have HRs := rows_str (k0 := 0) (en := [125]) (T := ⟨#[125]⟩) hI (fun b3 b5 => until_str hL (bx_stb hI b3 b5 _) (closed_goes nameP_goes) [125] (by decide) ⟨#[125]⟩ rfl (rows1_str hL hI (cstr_i hL)))
  have HBf := brack_field hL hI (some_field (k0 := 0) hL hI goes_field (field_i hL))
  have HBb := brack_bits hL hI (some_bits (k0 := 0) hL hI goes_lit (lit_i hL))
  have z : ∀ {F : Nat} {f : Pf Dc}, PfI (I0 bt p db sb) F #[.pointer (some ⟨p, 0, none⟩)] p q L (.map (some db)) (.map (some sb)) 0 f DeclR → PfI (I0 bt p db sb) F #[.pointer (some ⟨p, 0, none⟩)] p q L (.map (some db)) (.map (some sb)) (0 + 1) f DeclR := fun h => h.later (Nat.zero_le _)
  have hrows : ∀ r ∈ dcRows, entP r.g ∧ PfI (I0 bt p db sb) r.g #[.pointer (some ⟨p, 0, none⟩)] p q L (.map (some db)) (.map (some sb)) (0 + 1) r.f DeclR := by
    intro r hr
    simp only [dcRows, List.mem_cons, List.not_mem_nil, or_false] at hr
    rcases hr with rfl | rfl | rfl | rfl | rfl | rfl | rfl | rfl | rfl | rfl
    · exact ⟨ent_header, z (header_ok hL hI HFl)⟩
    · exact ⟨ent_metadata, z (metadata_ok hL hI HFl)⟩
    · exact ⟨ent_register, z (register_ok hL hI)⟩
    · exact ⟨ent_counter, z (counter_ok hL hI)⟩
    · exact ⟨ent_meter, z (meter_ok hL hI)⟩
    · exact ⟨ent_parser, z (parser_ok hL hI HUt)⟩
    · exact ⟨ent_action, z (action_ok hL hI HBf HBl)⟩
    · exact ⟨ent_table, z (table_ok hL hI HRk HBb)⟩
    · exact ⟨ent_control, z (control_ok hL hI HBl)⟩
    · exact ⟨ent_deparser, z (deparser_ok hL hI HRs)⟩
  have HDc := decl_ok (k0 := 0) hL hI (fun W h => ⟨db, rfl, by rw [dcRows_map]; exact h.2.1⟩) dcRows_keys hrows
  exact program_ok hI goes_declA HDc
/- What a text is read as: its program, or a line and a word on what is wrong. -/
abbrev PRes := Except (Nat × Nat) (List Dc)
def parseL (s : List UInt8) : PRes := if 65536 < s.length then .error (0, 3) else match toks s with
  | .error k => .error (k, 4)
  | .ok xs => match progA (xs ++ [endW xs]) 0 with
    | .error k => .error (lineP (xs ++ [endW xs]) k, 5)
    | .ok (ds, _) => if limT ds then .error (0, 3) else .ok ds
end Go.Proofs.YtcfopkaomknmjaaGreatDoor
