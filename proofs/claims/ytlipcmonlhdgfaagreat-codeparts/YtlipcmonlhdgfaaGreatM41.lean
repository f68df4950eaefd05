/- Pieces of the proof: CpM, TwZg. -/
import Derived.Test.YtlipcmonlhdgfaaGreatM40
import Derived.Test.YtlipcmonlhdgfaaGreatM10
import Derived.Test.YtlipcmonlhdgfaaGreatM3
/- package code: what may be, still may be with a slot more, or with fewer instructions. -/
namespace Go.Proofs.YtlipcmonlhdgfaaGreat
open Go.RowKit

def F2 {α : Type} (R : α → α → Prop) (l l' : List α) : Prop := l.length = l'.length ∧ ∀ i (h : i < l.length) (h' : i < l'.length), R l[i] l'[i]
theorem f2_all {α : Type} {R : α → α → Prop} {l l' : List α} {p p' : α → Bool} (h : F2 R l l') (hp : ∀ x ∈ l, ∀ x', R x x' → p x = true → p' x' = true) (ha : l.all p = true) : l'.all p' = true := by
  rw [List.all_eq_true] at ha ⊢
  intro x hx
  obtain ⟨i, hi, rfl⟩ := List.getElem_of_mem hx
  have hi' : i < l.length := by rw [h.1]; exact hi
  exact hp _ (List.getElem_mem hi') _ (h.2 i hi' hi) (ha _ (List.getElem_mem hi'))
theorem f2_map {α β : Type} {R : α → α → Prop} {g : α → β} {l l' : List α} (h : l'.map g = l.map g) (hg : ∀ x x', g x' = g x → R x x') : F2 R l l' := by
  have hl : l'.length = l.length := by simpa using congrArg List.length h
  refine ⟨hl.symm, fun i h1 h2 => hg _ _ ?_⟩
  have := congrArg (fun m : List β => m[i]?) h
  simpa [List.getElem?_map, List.getElem?_eq_getElem h1, List.getElem?_eq_getElem h2] using this
theorem f2_sum {α : Type} {R : α → α → Prop} {f : α → Nat} (hR : ∀ x x', R x x' → f x' ≤ f x) {l l' : List α} (h : F2 R l l') : sumN f l' ≤ sumN f l := by
  have key : ∀ k, k ≤ l.length → sumN f (l'.take k) ≤ sumN f (l.take k) := by
    intro k
    induction k with
    | zero => intro _; simp [sumN]
    | succ k ih =>
      intro hk
      have h1 : k < l.length := by omega
      have h2 : k < l'.length := by rw [← h.1]; exact h1
      rw [sumN_next f h1, sumN_next f h2]
      have := ih (by omega)
      have := hR _ _ (h.2 k h1 h2)
      omega
  have := key l.length (Nat.le_refl _)
  rw [List.take_length, h.1, List.take_length] at this
  exact this
theorem wtn_mono {k : Int} {n m : Nat} (h : wtn k n = true) (hm : n ≤ m) : wtn k m = true := by
  unfold wtn at *
  simp at *
  omega
theorem wid_app {sl : List Int} (t : List Int) {s : Int} (h : wtn s sl.length = true) : wid (sl ++ t) s = wid sl s := by
  unfold wid
  rw [if_pos h, if_pos (wtn_mono h (by simp))]
  obtain ⟨k, rfl, hk⟩ := wtn_yes h
  rw [Int.toNat_natCast, List.getD_eq_getElem?_getD, List.getD_eq_getElem?_getD, List.getElem?_append_left hk]
theorem unG_mono {n m : Nat} (hm : n ≤ m) : ∀ (l S : List Int), unG n l S = true → unG m l S = true
  | [], _, _ => rfl
  | z :: l, S, h => by
    rw [unG] at h ⊢
    simp only [Bool.and_eq_true] at h ⊢
    exact ⟨wtn_mono h.1 hm, h.2.1, unG_mono hm l (z :: S) h.2.2⟩
theorem lsB_iff (D : Int → Int → Int → Int → Int → Int × Int × Int × Int) (c : CoL) (wh : Int) (l : List InL) : lsB D c wh l = true ↔ ∀ i (h : i < l.length), insB D c wh l[i].v (i : Int) (l.length : Int) = true := by
  unfold lsB
  rw [List.all_eq_true]
  constructor
  · intro h i hi
    exact h (l[i], i) (List.mem_iff_getElem.2 ⟨i, by simpa using hi, by simp⟩)
  · rintro h ⟨x, i⟩ hx
    obtain ⟨j, hj, he⟩ := List.mem_iff_getElem.1 hx
    simp only [List.getElem_zipIdx, Nat.zero_add, Prod.mk.injEq] at he
    obtain ⟨rfl, rfl⟩ := he
    exact h j (by simpa using hj)
/- One instruction: its slots are there. -/
theorem eqI_app {sl t : List Int} : ∀ (a b : List Int), (∀ z ∈ a, wtn z sl.length = true) → (∀ z ∈ b, wtn z sl.length = true) → eqI (fun x y => wid (sl ++ t) x == wid (sl ++ t) y) a b = eqI (fun x y => wid sl x == wid sl y) a b := by
  intro a b ha hb
  unfold eqI
  congr 1
  rw [Bool.eq_iff_iff, List.all_eq_true, List.all_eq_true]
  constructor
  · intro h z hz
    have h1 := List.of_mem_zip hz
    have := h z hz
    dsimp only at this ⊢
    rw [wid_app t (ha _ h1.1), wid_app t (hb _ h1.2)] at this
    exact this
  · intro h z hz
    have h1 := List.of_mem_zip hz
    dsimp only
    rw [wid_app t (ha _ h1.1), wid_app t (hb _ h1.2)]
    exact h z hz
theorem eqN_app {sl t : List Int} : ∀ (a : List Nb) (b : List Int), (∀ z ∈ b, wtn z sl.length = true) → eqN (fun x y => fitB (sl ++ t) x y) a b = eqN (fun x y => fitB sl x y) a b := by
  intro a b hb
  unfold eqN
  congr 1
  rw [Bool.eq_iff_iff, List.all_eq_true, List.all_eq_true]
  constructor
  · intro h z hz
    have h1 := List.of_mem_zip hz
    have := h z hz
    unfold fitB at this ⊢
    dsimp only at this ⊢
    rw [wid_app t (hb _ h1.2)] at this
    exact this
  · intro h z hz
    have h1 := List.of_mem_zip hz
    have := h z hz
    unfold fitB at this ⊢
    dsimp only at this ⊢
    rw [wid_app t (hb _ h1.2)]
    exact this
/- The relation. -/
def raB (x x' : AcL) : Prop := x'.ps = x.ps ∧ (x'.cd.map bIn = x.cd.map bIn ∨ x'.cd = [])
def rtB (x x' : TaL) : Prop := x'.ks = x.ks ∧ x'.kd = x.kd ∧ x'.ats = x.ats ∧ x'.df = x.df ∧ x'.gs = x.gs ∧ x'.size = x.size ∧ (x'.bf.map bIn = x.bf.map bIn ∨ x'.bf = [])
structure Mo (c c' : CoL) (t : List Int) : Prop where
  sl : c'.sl = c.sl ++ t
  wd : t.all widB = true
  sn : c'.sl.length ≤ 65536
  hd : F2 (fun x x' => x'.l = x.l) c.hd c'.hd
  mt : c'.mt = c.mt
  st : F2 (fun x x' => bNd x' = bNd x) c.st c'.st
  mn : c'.mn.map bIn = c.mn.map bIn ∨ c'.mn = []
  ac : F2 raB c.ac c'.ac
  tb : F2 rtB c.tb c'.tb
  em : c'.em = c.em
  ar : c'.ar = c.ar
theorem Mo.ps {c c' : CoL} {t : List Int} (h : Mo c c' t) (n : Nat) : (c'.ac.getD n ac0).ps = (c.ac.getD n ac0).ps := by
  by_cases hn : n < c.ac.length
  · have hn' : n < c'.ac.length := by rw [← h.ac.1]; exact hn
    rw [List.getD_eq_getElem?_getD, List.getD_eq_getElem?_getD, List.getElem?_eq_getElem hn, List.getElem?_eq_getElem hn']
    exact (h.ac.2 n hn hn').1
  · rw [List.getD_eq_getElem?_getD, List.getD_eq_getElem?_getD, List.getElem?_eq_none (by have := h.ac.1; omega), List.getElem?_eq_none (by omega)]
theorem insB_mo (D : Int → Int → Int → Int → Int → Int × Int × Int × Int) {c c' : CoL} {t : List Int} (h : Mo c c' t) (hps : ∀ x ∈ c.ac, ∀ z ∈ x.ps, wtn z c.sl.length = true) {wh : Int} {v : In} {k e : Int} (hi : insB D c wh v k e = true) : insB D c' wh v k e = true := by
  unfold insB at hi ⊢
  simp only [Bool.and_eq_true] at hi ⊢
  obtain ⟨h1, h2, h3, h4, h5⟩ := hi
  have hs := h4
  unfold slB at hs
  simp only [Bool.and_eq_true, List.all_eq_true] at hs
  obtain ⟨s1, s2, s3, s4⟩ := hs
  have hle : c.sl.length ≤ c'.sl.length := by rw [h.sl]; simp
  refine ⟨h1, h2, h3, ?_, ?_⟩
  · unfold slB
    simp only [Bool.and_eq_true, List.all_eq_true]
    exact ⟨wtn_mono s1 hle, wtn_mono s2 hle, wtn_mono s3 hle, fun z hz => wtn_mono (s4 z hz) hle⟩
  · have e1 : wid c'.sl v.to = wid c.sl v.to := by rw [h.sl]; exact wid_app t s1
    have e2 : wid c'.sl v.a = wid c.sl v.a := by rw [h.sl]; exact wid_app t s2
    have e3 : wid c'.sl v.b = wid c.sl v.b := by rw [h.sl]; exact wid_app t s3
    have e4 : c'.hd.length = c.hd.length := h.hd.1.symm
    have e5 : c'.tb.length = c.tb.length := h.tb.1.symm
    have e6 : callB c' v = callB c v := by
      unfold callB
      rw [← h.ac.1, h.ps, h.sl]
      congr 1
      refine eqI_app _ _ s4 (fun z hz => ?_)
      by_cases hn : v.n.toNat < c.ac.length
      · rw [List.getD_eq_getElem?_getD, List.getElem?_eq_getElem hn] at hz
        exact hps _ (List.getElem_mem hn) z hz
      · rw [List.getD_eq_getElem?_getD, List.getElem?_eq_none (by omega)] at hz
        exact absurd hz (by simp [ac0])
    have e7 : holdB D c' v k e = holdB D c v k e := by
      unfold holdB opB rgB
      rw [e1, e2, e3, e4, e5, e6, h.ar]
    rw [e7]; exact h5
theorem lsB_mo (D : Int → Int → Int → Int → Int → Int × Int × Int × Int) {c c' : CoL} {t : List Int} (h : Mo c c' t) (hps : ∀ x ∈ c.ac, ∀ z ∈ x.ps, wtn z c.sl.length = true) {wh : Int} {l l' : List InL} (hl : l'.map bIn = l.map bIn ∨ l' = []) (hi : lsB D c wh l = true) : lsB D c' wh l' = true := by
  rw [lsB_iff] at hi ⊢
  rcases hl with hl | rfl
  · have hn : l'.length = l.length := by simpa using congrArg List.length hl
    intro i h1
    have h2 : i < l.length := by omega
    have hv : l'[i].v = l[i].v := by
      have := congrArg (fun m : List InL => m[i]?) hl
      simp only [List.getElem?_map, List.getElem?_eq_getElem h1, List.getElem?_eq_getElem h2, Option.map_some, Option.some.injEq] at this
      have h3 := congrArg (fun x : InL => x.v) this
      exact h3
    rw [hv, hn]
    exact insB_mo D h hps (hi i h2)
  · intro i h1
    exact absurd h1 (by simp)
theorem bNd_hs {x x' : NdL} (h : bNd x' = bNd x) : x'.hs = x.hs ∧ x'.cd.map bIn = x.cd.map bIn ∧ x'.slot = x.slot ∧ x'.js = x.js ∧ x'.to = x.to := by
  unfold bNd at h
  injection h with h1 _ _ h2 _ _ h3 h4 _ _ h5
  exact ⟨h1, h2, h3, h4, h5⟩
theorem wsum_app {sl : List Int} (t : List Int) : ∀ (l : List Int) (s : Int), (∀ z ∈ l, wtn z sl.length = true) → l.foldl (fun s z => s + wid (sl ++ t) z) s = l.foldl (fun s z => s + wid sl z) s
  | [], _, _ => rfl
  | z :: l, s, h => by
    rw [List.foldl_cons, List.foldl_cons, wid_app t (h z (by simp))]
    exact wsum_app t l _ (fun x hx => h x (by simp [hx]))
/- All together. -/
theorem chB_mo (D : Int → Int → Int → Int → Int → Int × Int × Int × Int) {c c' : CoL} {t : List Int} (h : Mo c c' t) (hc : chB D c = true) : chB D c' = true := by
  unfold chB at hc ⊢
  simp only [Bool.and_eq_true] at hc ⊢
  obtain ⟨q1, q2, q3, q4, q5, q6, q7, q8, q9⟩ := hc
  have hle : c.sl.length ≤ c'.sl.length := by rw [h.sl]; simp
  have ew : ∀ s, wtn s c.sl.length = true → wid c'.sl s = wid c.sl s := fun s hs => by rw [h.sl]; exact wid_app t hs
  have q3' := q3
  unfold owB at q3'
  simp only [Bool.and_eq_true] at q3'
  obtain ⟨o1, o2, o3⟩ := q3'
  have hin := unG_in _ _ o1
  have hps : ∀ x ∈ c.ac, ∀ z ∈ x.ps, wtn z c.sl.length = true := fun x hx z hz => hin z (by
    refine List.mem_flatten.2 ⟨x.ps, List.mem_map.2 ⟨acH x, ?_, rfl⟩, hz⟩
    unfold owG
    exact List.mem_append_right _ (List.mem_map.2 ⟨x, hx, rfl⟩))
  have hhd : ∀ x ∈ c.hd, ∀ z ∈ x.l, wtn z c.sl.length = true := fun x hx z hz => hin z (by
    refine List.mem_flatten.2 ⟨x.l, List.mem_map.2 ⟨x, ?_, rfl⟩, hz⟩
    unfold owG
    exact List.mem_append_left _ (List.mem_cons_of_mem _ hx))
  have hmt : ∀ z ∈ c.mt, wtn z c.sl.length = true := fun z hz => hin z (by
    refine List.mem_flatten.2 ⟨c.mt, List.mem_map.2 ⟨⟨c.mt, c.ma, c.mc⟩, ?_, rfl⟩, hz⟩
    unfold owG
    exact List.mem_append_left _ (List.mem_cons_self ..))
  have elist : (owG c').map HdL.l = (owG c).map HdL.l := by
    unfold owG
    rw [List.map_append, List.map_append, List.map_cons, List.map_cons, h.mt]
    have e1 : c'.hd.map HdL.l = c.hd.map HdL.l := by
      apply List.ext_getElem
      · simp [h.hd.1]
      · intro i h1 h2
        simp only [List.getElem_map]
        exact h.hd.2 i (by simpa using h2) (by simpa using h1)
    have e2 : (c'.ac.map acH).map HdL.l = (c.ac.map acH).map HdL.l := by
      apply List.ext_getElem
      · simp [h.ac.1]
      · intro i h1 h2
        simp only [List.getElem_map]
        exact (h.ac.2 i (by simpa using h2) (by simpa using h1)).1
    rw [e1, e2]
  refine ⟨?_, ?_, ?_, ?_, ?_, ?_, ?_, ?_, ?_⟩
  · unfold shB at q1 ⊢
    simp only [Bool.and_eq_true, decide_eq_true_eq] at q1 ⊢
    refine ⟨h.sn, by rw [← h.hd.1]; exact q1.2.1, by rw [← h.ac.1]; exact q1.2.2.1, by rw [h.ar]; exact q1.2.2.2.1, by rw [← h.tb.1]; exact q1.2.2.2.2.1, by rw [← h.st.1]; exact q1.2.2.2.2.2.1, ?_⟩
    refine Nat.le_trans ?_ q1.2.2.2.2.2.2
    unfold insN
    have a1 : c'.mn.length ≤ c.mn.length := by
      rcases h.mn with e | e
      · exact Nat.le_of_eq (by simpa using congrArg List.length e)
      · rw [e]; simp
    have a2 := f2_sum (f := fun x : AcL => x.cd.length) (fun x x' hr => by
      rcases hr.2 with e | e
      · exact Nat.le_of_eq (by simpa using congrArg List.length e)
      · rw [e]; simp) h.ac
    have a3 := f2_sum (f := fun x : NdL => x.cd.length) (fun x x' hr => by
      have e := (bNd_hs hr).2.1
      exact Nat.le_of_eq (by simpa using congrArg List.length e)) h.st
    have a4 := f2_sum (f := fun x : TaL => x.bf.length) (fun x x' hr => by
      rcases hr.2.2.2.2.2.2 with e | e
      · exact Nat.le_of_eq (by simpa using congrArg List.length e)
      · rw [e]; simp) h.tb
    omega
  · rw [h.sl, List.all_append, q2, h.wd]; rfl
  · unfold owB
    simp only [Bool.and_eq_true]
    refine ⟨?_, ?_, ?_⟩
    · rw [elist]
      exact unG_mono hle _ _ o1
    · unfold mtB at o2 ⊢
      rw [h.mt]
      simp only [Bool.and_eq_true, List.all_eq_true] at o2 ⊢
      exact ⟨o2.1, fun z hz => by rw [ew z (hmt z (List.mem_of_mem_take hz))]; exact o2.2 z hz⟩
    · refine f2_all h.hd (fun x hx x' hr hp => ?_) o3
      unfold hdB at hp ⊢
      rw [hr]
      have : wsum c'.sl x.l = wsum c.sl x.l := by
        unfold wsum
        rw [h.sl]
        exact wsum_app t x.l 0 (hhd x hx)
      rw [this]; exact hp
  · rw [h.ar]; exact q4
  · rw [h.em, ← h.hd.1]; exact q5
  · exact lsB_mo D h hps h.mn q6
  · refine f2_all h.ac (fun x _ x' hr hp => ?_) q7
    unfold acB at hp ⊢
    simp only [Bool.and_eq_true] at hp ⊢
    rw [hr.1]
    exact ⟨hp.1, lsB_mo D h hps hr.2 hp.2⟩
  · refine f2_all h.st (fun x _ x' hr hp => ?_) q8
    obtain ⟨r1, r2, r3, r4, r5⟩ := bNd_hs hr
    unfold ndB csB at hp ⊢
    simp only [Bool.and_eq_true] at hp ⊢
    rw [r1, r3, r4, r5, ← h.hd.1, ← h.st.1]
    refine ⟨hp.1, lsB_mo D h hps (.inl r2) hp.2.1, ?_, hp.2.2.2⟩
    have h3 := hp.2.2.1
    by_cases hs : x.slot = -1
    · rw [if_pos hs] at h3 ⊢; exact h3
    · rw [if_neg hs] at h3 ⊢
      simp only [Bool.and_eq_true, List.all_eq_true] at h3 ⊢
      refine ⟨wtn_mono h3.1 hle, fun y hy => ?_⟩
      have := h3.2 y hy
      unfold jpB fitB at this ⊢
      rw [ew _ h3.1, ← h.st.1]; exact this
  · refine f2_all h.tb (fun x _ x' hr hp => ?_) q9
    obtain ⟨r1, r2, r3, r4, r5, r6, r7⟩ := hr
    unfold tbB at hp ⊢
    simp only [Bool.and_eq_true] at hp ⊢
    refine ⟨?_, ?_, by rw [r6]; exact hp.2.2.1, lsB_mo D h hps r7 hp.2.2.2⟩
    · have k := hp.1
      unfold kyB at k ⊢
      simp only [Bool.and_eq_true, List.all_eq_true] at k ⊢
      rw [r1, r2]
      exact ⟨k.1, k.2.1, fun z hz => wtn_mono (k.2.2.1 z hz) hle, k.2.2.2⟩
    · have k := hp.2.1
      unfold aaB at k ⊢
      rw [r3, r4, r5, h.ps, ← h.ac.1, h.sl]
      rw [eqN_app (t := t) x.gs _ (fun z hz => ?_)]
      · exact k
      · by_cases hn : x.df.toNat < c.ac.length
        · rw [List.getD_eq_getElem?_getD, List.getElem?_eq_getElem hn] at hz
          exact hps _ (List.getElem_mem hn) z hz
        · rw [List.getD_eq_getElem?_getD, List.getElem?_eq_none (by omega)] at hz
          exact absurd hz (by simp [ac0])
end Go.Proofs.YtlipcmonlhdgfaaGreat
/- TwinInts, LeftInts (TwZ over TwG), with rows of one's own handed on (cut out of MkF). -/
namespace Go.Proofs.YtlipcmonlhdgfaaGreat
open Go.RowKit

theorem rdZ_own {W : World} {B n : Nat} {a : Option Addr} {k cap : Nat} {l : List Int} (h : W.ownsRow B 3 1 (.slice a k cap) n (flat intC l)) : k = l.length ∧ RdZ W a l := by
  have hl := h.1
  rw [flat_length int_len] at hl
  rcases h.2 with ⟨h1, h2⟩ | ⟨g, cap', cur, h1, h2, h3, h4, _⟩
  · injection h1 with e1 e2 e3
    subst e1 e2 e3
    have : l = [] := List.length_eq_zero_iff.1 (by omega)
    subst this
    exact ⟨rfl, .inl rfl⟩
  · injection h1 with e1 e2 e3
    subst e1 e2 e3
    refine ⟨by omega, .inr ⟨g, 0, rfl, (Array.getElem?_eq_some_iff.1 h3).1, fun i hi => ?_⟩⟩
    have c := World.ownsRow.cells h (g := g) rfl i (.int .i64 l[i]) (by
      have := flat_get int_len l i 0 hi (by decide)
      rw [Nat.mul_one, Nat.add_zero] at this
      exact this)
    rw [add8] at c
    exact c
theorem info_dZ : (Tryz.prog.info? 3).map (fun i => (i.zero, i.size, i.bytes)) = some (some (.int .i64 0), 1, 8) := by kernel_rfl
set_option maxRecDepth 100000 in
set_option maxHeartbeats 4000000 in
theorem twinZ_any (a : Option Addr) (cap : Nat) (L : List Int) (w : World) (hl : L.length ≤ 1000000) (hr : RdZ w a L) :
    Calls Tryz.prog 19 #[.slice a L.length cap] w fun e w' => ∃ g c, e = .returned (.slice (some ⟨g, 0, none⟩) L.length c) ∧ RdZ w' (some ⟨g, 0, none⟩) (L ++ [(77 : Int)]) ∧ L.length + 1 ≤ c ∧ c ≤ maxLen ∧ (w.heap.size ≤ g ∧ g < w'.heap.size) ∧ Below w.heap.size w w' ∧ w'.ownsRow w.heap.size 3 1 (.slice (some ⟨g, 0, none⟩) L.length c) L.length (flat intC L) := by
  have HR := hide hr
  obtain ⟨i0, hi0, hz0, hz1, hz2⟩ := info_parts info_dZ
  clear hr
  go_enter Tryz.func19, Tryz.ntmps19
  go_wp2_with (first
    | (refine wpList_make_own _ rfl _ _ 22 rfl w.heap.size 3 i0 (.int .i64 0) 1 Tryz.underlying22 hi0 hz0 hz1 .i64 .i64 _ (L.length + 1) rfl rfl (by simp) (by rw [hz2]; omega) (by unfold maxLen; omega) (Nat.le_refl _) ?_; intro w1 O1 G1; have OO1 : Hid (w1.ownsRow w.heap.size 3 1 (.slice (some ⟨w.heap.size, 0, none⟩) 0 (L.length + 1)) 0 (flat intC [])) := O1; have B1 := hide ((Below.refl _ w).grown G1 (Nat.le_refl _) (fun k e => by cases e)); clear O1 G1))
  go_loopw [3, 4] (fun t i wr => ∃ (k : Nat) (v : Value), k ≤ L.length ∧ i = .int .i64 k ∧ t = v ∧ wr.ownsRow w.heap.size 3 1 v k (flat intC (L.take k)) ∧ Below w.heap.size w wr) (fun _ i _ => L.length - (intOf i).toNat)
  case atStart => exact ⟨0, _, by omega, rfl, rfl, OO1.out, B1.out⟩
  case round =>
    obtain ⟨k, v, hk, rfl, rfl, ho, hb⟩ := hrel
    have OO := hide ho; have BB := hide hb
    clear ho hb OO1 B1
    by_cases hlt : k < L.length
    · have R1 := HR.out.below BB.out
      obtain ⟨b, off, rfl, _, hc⟩ := R1.some (by omega)
      have c0 := hc k hlt
      have hkI : (k : Int) < (L.length : Int) := by omega
      have HT := hide (List.take_succ_eq_append_getElem hlt)
      clear hc R1 HR
      generalize L[k] = x at *
      go_wp2_with (first
        | (at_builtin; refine wpList_append_own_at _ rfl _ _ 22 rfl w.heap.size 3 i0 (.int .i64 0) 1 8 Tryz.underlying22 hi0 hz0 hz1 hz2 rfl (by decide) _ k (flat intC (L.take k)) rfl (own_allocD OO.out _) ⟨wr.heap.size, 0, none⟩ 1 1 [.int .i64 x] rfl rfl (cells_newD _ _ _) (by simp [Value.oneCell']) (by unfold maxLen; omega) (by omega) (by have := BB.out.size; simp; omega) ?_; intro v7 w7 O7 G7 _ K7; have OO7 : Hid (w7.ownsRow w.heap.size 3 1 v7 (k + 1) (flat intC (L.take (k + 1)))) := by { show World.ownsRow _ _ _ _ _ _ _; rw [HT.out, flat_append]; exact O7 }; have B7 := hide (below_ownD (BB.out.alloc BB.out.size _) (own_allocD OO.out _) G7 (by have := BB.out.size; simp; omega)); clear O7 G7 K7))
      go_roundw
      case rel => exact ⟨k + 1, v7, by omega, by go_num, rfl, OO7.out, B7.out⟩
      case measure => simp [intOf]; omega
    · obtain rfl : k = L.length := by omega
      rw [List.take_length] at OO
      go_wp2_with (at_builtin; (refine wpList_append_own_at _ rfl _ _ 22 rfl w.heap.size 3 i0 (.int .i64 0) 1 8 Tryz.underlying22 hi0 hz0 hz1 hz2 rfl (by decide) _ L.length (flat intC L) rfl (own_allocD OO.out _) ⟨wr.heap.size, 0, none⟩ 1 1 [.int .i64 77] rfl rfl (cells_newD _ _ _) (by simp [Value.oneCell']) (by unfold maxLen; omega) (by omega) (by have := BB.out.size; simp; omega) ?_; intro v7 w7 O7 G7 _ K7; have O8 : w7.ownsRow w.heap.size 3 1 v7 (L.length + 1) (flat intC (L ++ [(77 : Int)])) := by { rw [flat_append]; exact O7 }; have B7 := hide (below_ownD (BB.out.alloc BB.out.size _) (own_allocD OO.out _) G7 (by have := BB.out.size; simp; omega)); obtain ⟨g, c, rfl, hgc, hgB, hgl, hcm⟩ := own_someD O8 (by omega); have OO7 := hide O8; clear O7 O8 G7 K7))
      go_ret
      exact ⟨g, c, rfl, (rdZ_own OO7.out).2, hgc, hcm, ⟨hgB, hgl⟩, B7.out, own_cut (m := 1) (by have := OO7.out; rw [flat_append] at this; exact this) (flat_length int_len L)⟩
theorem rdZ_block {W W' : World} {g : Nat} {L : List Int} (h : RdZ W (some ⟨g, 0, none⟩) L) (hb : W'.heap[g]? = W.heap[g]?) (hg : g < W'.heap.size) : RdZ W' (some ⟨g, 0, none⟩) L := by
  rcases h with h | ⟨p, off, e, hp, hc⟩
  · exact .inl h
  · cases e
    have key : ∀ o v, W.cell? ⟨g, o, none⟩ = some v → W'.cell? ⟨g, o, none⟩ = some v := fun o v hv => (World.cell?_of_block (w := W) (a := ⟨g, o, none⟩) hb).trans hv
    refine .inr ⟨g, 0, rfl, hg, fun i hi => ?_⟩
    exact key _ _ (hc i hi)
theorem rdZ_take {W : World} {a : Option Addr} {L M : List Int} (h : RdZ W a (L ++ M)) : RdZ W a L := by
  rcases h with h | ⟨p, off, rfl, hp, hc⟩
  · exact .inl (List.append_eq_nil_iff.1 h).1
  · refine .inr ⟨p, off, rfl, hp, fun i hi => ?_⟩
    have := hc i (by simp; omega)
    rw [List.getElem_append_left hi] at this
    exact this
set_option maxRecDepth 100000 in
set_option maxHeartbeats 4000000 in
theorem leftZ_yes (g c : Nat) (a : Option Addr) (cap : Nat) (L : List Int) (w : World) (hl : L.length ≤ 1000000) (hr : RdZ w a L) (hc : L.length + 1 ≤ c) (hcm : c ≤ 9223372036854775807) (ho : RdZ w (some ⟨g, 0, none⟩) (L ++ [(77 : Int)])) :
    Calls Tryz.prog 34 #[.slice (some ⟨g, 0, none⟩) L.length c, .slice a L.length cap] w fun e w' => e = .returned (.bool true) ∧ Below w.heap.size w w' := by
  have HC := hide (rdZ_take ho)
  have HR := hide hr
  have hcI : decide ((c : Int) ≤ (L.length : Int)) = false := by simp; omega
  have HO := hide ho
  have hlI : (L.length : Int) + 1 ≤ (c : Int) := by omega
  clear hr ho
  go_enter Tryz.func34, Tryz.ntmps34
  go_wp2
  go_loopw [5] (fun i wr => ∃ k : Nat, k ≤ L.length ∧ i = .int .i64 k ∧ Below w.heap.size w wr) (fun i _ => L.length - (intOf i).toNat)
  case atStart => exact ⟨0, by omega, rfl, Below.refl _ _⟩
  case round =>
    obtain ⟨k, hk, rfl, hnx⟩ := hrel
    have HN := hide hnx
    by_cases hlt : k < L.length
    · obtain ⟨p, off, rfl, _, hcl⟩ := (HR.out.below hnx).some (by omega)
      obtain ⟨g', o', eg, _, hcw⟩ := (HC.out.below hnx).some (by omega)
      cases eg
      have h0 := hcw k hlt
      have k0 := hcl k hlt
      rw [Nat.zero_add] at h0
      have hkI : (k : Int) < (L.length : Int) := by omega
      clear hcl hcw HR HC HO hnx
      generalize L[k] = x0 at *
      go_wp2
      go_region
      all_goals
        go_wp2
        go_roundw
        case rel => exact ⟨k + 1, by omega, by go_num, HN.out.drew⟩
        case measure => simp [intOf]; omega
    · obtain rfl : k = L.length := by omega
      obtain ⟨g', o', eg, _, hcw⟩ := (HO.out.below hnx).some (by simp)
      cases eg
      have hlast := hcw L.length (by simp)
      rw [List.getElem_append_right (Nat.le_refl _)] at hlast
      simp only [Nat.sub_self, List.getElem_singleton, Nat.zero_add] at hlast
      have t0 := hlast
      clear HR HC HO hnx hcw
      go_wp2
      go_ret
      exact ⟨rfl, HN.out⟩
end Go.Proofs.YtlipcmonlhdgfaaGreat
