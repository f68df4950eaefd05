/- Pieces of the proof: CoA, TqA, TqB. -/
import Derived.Test.YtlipcmonlhdgfaaGreatM3
import Derived.Test.YtlipcmonlhdgfaaGreatM4
/- Flat code, its values and how they lie. -/
namespace Go.Proofs.YtlipcmonlhdgfaaGreat
open Go.RowKit

/- A list of anything that can be read, c cells each. -/
def LiR {α : Type} (W : World) (c : Nat) (f : α → List Value) (a : Option Addr) (l : List α) : Prop := l = [] ∨ ∃ p off, a = some ⟨p, off, none⟩ ∧ p < W.heap.size ∧ ∀ i (h : i < l.length) j u, (f l[i])[j]? = some u → W.cell? ⟨p, off + i * c + j, none⟩ = some u
theorem LiR.below {α : Type} {W W' : World} {c : Nat} {f : α → List Value} {a : Option Addr} {l : List α} (h : LiR W c f a l) (hb : Below W.heap.size W W') : LiR W' c f a l := by
  rcases h with h | ⟨p, off, rfl, hp, hc⟩
  · exact .inl h
  · exact .inr ⟨p, off, rfl, Nat.lt_of_lt_of_le hp hb.size, fun i hi j u hu => (hb.cell (p := ⟨p, _, none⟩) hp).trans (hc i hi j u hu)⟩
theorem LiR.some {α : Type} {W : World} {c : Nat} {f : α → List Value} {a : Option Addr} {l : List α} (h : LiR W c f a l) (hl : 0 < l.length) : ∃ p off, a = Option.some ⟨p, off, none⟩ ∧ p < W.heap.size ∧ ∀ i (h : i < l.length) j u, (f l[i])[j]? = Option.some u → W.cell? ⟨p, off + i * c + j, none⟩ = Option.some u := by
  rcases h with rfl | h
  · simp at hl
  · exact h
/- Instructions. -/
structure In where
  op : Int
  to : Int
  a : Int
  b : Int
  n : Int
  m : Int
  l : List Int
  lit : Nb
  of : Int
structure InL where
  v : In
  la : Option Addr
  lc : Nat
def InL.cells (x : InL) : List Value := [.int .u8 x.v.op, .int .i64 x.v.to, .int .i64 x.v.a, .int .i64 x.v.b, .int .i64 x.v.n, .int .i64 x.v.m, .slice x.la x.v.l.length x.lc, .int .i64 x.v.lit.w, .int .u64 x.v.lit.hi, .int .u64 x.v.lit.lo, .int .u8 x.v.of]
def u8R (n : Int) : Prop := 0 ≤ n ∧ n < 256
structure InR (W : World) (x : InL) : Prop where
  l : RdZ W x.la x.v.l
  ln : x.v.l.length ≤ 1000000
  lr : ∀ z ∈ x.v.l, i64R z
  op : u8R x.v.op
  to : i64R x.v.to
  a : i64R x.v.a
  b : i64R x.v.b
  n : i64R x.v.n
  m : i64R x.v.m
  lit : NbR x.v.lit
  of : u8R x.v.of
theorem InR.below {W W' : World} {x : InL} (h : InR W x) (hb : Below W.heap.size W W') : InR W' x := ⟨h.l.below hb, h.ln, h.lr, h.op, h.to, h.a, h.b, h.n, h.m, h.lit, h.of⟩
/- A list of instructions. -/
structure InsR (W : World) (a : Option Addr) (l : List InL) : Prop where
  rd : LiR W 11 InL.cells a l
  ln : l.length ≤ 1000000
  ok : ∀ x ∈ l, InR W x
theorem InsR.below {W W' : World} {a : Option Addr} {l : List InL} (h : InsR W a l) (hb : Below W.heap.size W W') : InsR W' a l := ⟨h.rd.below hb, h.ln, fun x hx => (h.ok x hx).below hb⟩
/- A list of ints. -/
structure IsR (W : World) (a : Option Addr) (l : List Int) : Prop where
  rd : RdZ W a l
  ln : l.length ≤ 1000000
  ok : ∀ z ∈ l, i64R z
theorem IsR.below {W W' : World} {a : Option Addr} {l : List Int} (h : IsR W a l) (hb : Below W.heap.size W W') : IsR W' a l := ⟨h.rd.below hb, h.ln, h.ok⟩
/- Heads. -/
structure HdL where
  l : List Int
  a : Option Addr
  c : Nat
def HdL.cells (x : HdL) : List Value := [.slice x.a x.l.length x.c]
structure HdsR (W : World) (a : Option Addr) (l : List HdL) : Prop where
  rd : LiR W 1 HdL.cells a l
  ln : l.length ≤ 1000000
  ok : ∀ x ∈ l, IsR W x.a x.l
theorem HdsR.below {W W' : World} {a : Option Addr} {l : List HdL} (h : HdsR W a l) (hb : Below W.heap.size W W') : HdsR W' a l := ⟨h.rd.below hb, h.ln, fun x hx => (h.ok x hx).below hb⟩
/- Jumps. -/
structure Jp where
  v : Nb
  m : Nb
  to : Int
def Jp.cells (x : Jp) : List Value := [.int .i64 x.v.w, .int .u64 x.v.hi, .int .u64 x.v.lo, .int .i64 x.m.w, .int .u64 x.m.hi, .int .u64 x.m.lo, .int .i64 x.to]
structure JpR (x : Jp) : Prop where
  v : NbR x.v
  m : NbR x.m
  to : i64R x.to
structure JpsR (W : World) (a : Option Addr) (l : List Jp) : Prop where
  rd : LiR W 7 Jp.cells a l
  ln : l.length ≤ 1000000
  ok : ∀ x ∈ l, JpR x
theorem JpsR.below {W W' : World} {a : Option Addr} {l : List Jp} (h : JpsR W a l) (hb : Below W.heap.size W W') : JpsR W' a l := ⟨h.rd.below hb, h.ln, h.ok⟩
/- Nodes. -/
structure NdL where
  hs : List Int
  ha : Option Addr
  hc : Nat
  cd : List InL
  ca : Option Addr
  cc : Nat
  slot : Int
  js : List Jp
  ja : Option Addr
  jc : Nat
  to : Int
def NdL.cells (x : NdL) : List Value := [.slice x.ha x.hs.length x.hc, .slice x.ca x.cd.length x.cc, .int .i64 x.slot, .slice x.ja x.js.length x.jc, .int .i64 x.to]
structure NdR (W : World) (x : NdL) : Prop where
  hs : IsR W x.ha x.hs
  cd : InsR W x.ca x.cd
  slot : i64R x.slot
  js : JpsR W x.ja x.js
  to : i64R x.to
theorem NdR.below {W W' : World} {x : NdL} (h : NdR W x) (hb : Below W.heap.size W W') : NdR W' x := ⟨h.hs.below hb, h.cd.below hb, h.slot, h.js.below hb, h.to⟩
structure NdsR (W : World) (a : Option Addr) (l : List NdL) : Prop where
  rd : LiR W 5 NdL.cells a l
  ln : l.length ≤ 1000000
  ok : ∀ x ∈ l, NdR W x
theorem NdsR.below {W W' : World} {a : Option Addr} {l : List NdL} (h : NdsR W a l) (hb : Below W.heap.size W W') : NdsR W' a l := ⟨h.rd.below hb, h.ln, fun x hx => (h.ok x hx).below hb⟩
/- Actions. -/
structure AcL where
  name : ByteArray
  ps : List Int
  pa : Option Addr
  pc : Nat
  cd : List InL
  ca : Option Addr
  cc : Nat
def AcL.cells (x : AcL) : List Value := [.string x.name, .slice x.pa x.ps.length x.pc, .slice x.ca x.cd.length x.cc]
structure AcR (W : World) (x : AcL) : Prop where
  ps : IsR W x.pa x.ps
  cd : InsR W x.ca x.cd
theorem AcR.below {W W' : World} {x : AcL} (h : AcR W x) (hb : Below W.heap.size W W') : AcR W' x := ⟨h.ps.below hb, h.cd.below hb⟩
structure AcsR (W : World) (a : Option Addr) (l : List AcL) : Prop where
  rd : LiR W 3 AcL.cells a l
  ln : l.length ≤ 1000000
  ok : ∀ x ∈ l, AcR W x
theorem AcsR.below {W W' : World} {a : Option Addr} {l : List AcL} (h : AcsR W a l) (hb : Below W.heap.size W W') : AcsR W' a l := ⟨h.rd.below hb, h.ln, fun x hx => (h.ok x hx).below hb⟩
/- Kinds of keys: bytes. -/
def kdC (k : Int) : List Value := [.int .u8 k]
structure KdsR (W : World) (a : Option Addr) (l : List Int) : Prop where
  rd : LiR W 1 kdC a l
  ln : l.length ≤ 1000000
  ok : ∀ z ∈ l, u8R z
theorem KdsR.below {W W' : World} {a : Option Addr} {l : List Int} (h : KdsR W a l) (hb : Below W.heap.size W W') : KdsR W' a l := ⟨h.rd.below hb, h.ln, h.ok⟩
structure NbsR (W : World) (a : Option Addr) (l : List Nb) : Prop where
  rd : RdN W a l
  ln : l.length ≤ 1000000
  ok : ∀ z ∈ l, NbR z
theorem NbsR.below {W W' : World} {a : Option Addr} {l : List Nb} (h : NbsR W a l) (hb : Below W.heap.size W W') : NbsR W' a l := ⟨h.rd.below hb, h.ln, h.ok⟩
/- Tables. -/
structure TaL where
  name : ByteArray
  ks : List Int
  ka : Option Addr
  kc : Nat
  kd : List Int
  da : Option Addr
  dc : Nat
  ats : List Int
  aa : Option Addr
  ac : Nat
  df : Int
  gs : List Nb
  ga : Option Addr
  gc : Nat
  size : Int
  bf : List InL
  ba : Option Addr
  bc : Nat
def TaL.cells (x : TaL) : List Value := [.string x.name, .slice x.ka x.ks.length x.kc, .slice x.da x.kd.length x.dc, .slice x.aa x.ats.length x.ac, .int .i64 x.df, .slice x.ga x.gs.length x.gc, .int .i64 x.size, .slice x.ba x.bf.length x.bc]
structure TaR (W : World) (x : TaL) : Prop where
  ks : IsR W x.ka x.ks
  kd : KdsR W x.da x.kd
  ats : IsR W x.aa x.ats
  df : i64R x.df
  gs : NbsR W x.ga x.gs
  size : i64R x.size
  bf : InsR W x.ba x.bf
theorem TaR.below {W W' : World} {x : TaL} (h : TaR W x) (hb : Below W.heap.size W W') : TaR W' x := ⟨h.ks.below hb, h.kd.below hb, h.ats.below hb, h.df, h.gs.below hb, h.size, h.bf.below hb⟩
structure TasR (W : World) (a : Option Addr) (l : List TaL) : Prop where
  rd : LiR W 8 TaL.cells a l
  ln : l.length ≤ 1000000
  ok : ∀ x ∈ l, TaR W x
theorem TasR.below {W W' : World} {a : Option Addr} {l : List TaL} (h : TasR W a l) (hb : Below W.heap.size W W') : TasR W' a l := ⟨h.rd.below hb, h.ln, fun x hx => (h.ok x hx).below hb⟩
/- Arrays. -/
structure Ay where
  name : ByteArray
  kind : Int
  w : Int
def Ay.cells (x : Ay) : List Value := [.string x.name, .int .u8 x.kind, .int .i64 x.w]
structure AysR (W : World) (a : Option Addr) (l : List Ay) : Prop where
  rd : LiR W 3 Ay.cells a l
  ln : l.length ≤ 1000000
  ok : ∀ x ∈ l, u8R x.kind ∧ i64R x.w
theorem AysR.below {W W' : World} {a : Option Addr} {l : List Ay} (h : AysR W a l) (hb : Below W.heap.size W W') : AysR W' a l := ⟨h.rd.below hb, h.ln, h.ok⟩
/- Code. -/
structure CoL where
  sl : List Int
  sa : Option Addr
  sc : Nat
  hd : List HdL
  ha : Option Addr
  hc : Nat
  mt : List Int
  ma : Option Addr
  mc : Nat
  st : List NdL
  ta : Option Addr
  tc : Nat
  mn : List InL
  na : Option Addr
  nc : Nat
  ac : List AcL
  aa : Option Addr
  acc : Nat
  tb : List TaL
  ba : Option Addr
  bc : Nat
  em : List Int
  ea : Option Addr
  ec : Nat
  ar : List Ay
  ra : Option Addr
  rc : Nat
def CoL.cells (x : CoL) : List Value := [.slice x.sa x.sl.length x.sc, .slice x.ha x.hd.length x.hc, .slice x.ma x.mt.length x.mc, .slice x.ta x.st.length x.tc, .slice x.na x.mn.length x.nc, .slice x.aa x.ac.length x.acc, .slice x.ba x.tb.length x.bc, .slice x.ea x.em.length x.ec, .slice x.ra x.ar.length x.rc]
def CoL.val (x : CoL) : Value := .agg x.cells.toArray
structure CoR (W : World) (x : CoL) : Prop where
  sl : IsR W x.sa x.sl
  hd : HdsR W x.ha x.hd
  mt : IsR W x.ma x.mt
  st : NdsR W x.ta x.st
  mn : InsR W x.na x.mn
  ac : AcsR W x.aa x.ac
  tb : TasR W x.ba x.tb
  em : IsR W x.ea x.em
  ar : AysR W x.ra x.ar
theorem CoR.below {W W' : World} {x : CoL} (h : CoR W x) (hb : Below W.heap.size W W') : CoR W' x := ⟨h.sl.below hb, h.hd.below hb, h.mt.below hb, h.st.below hb, h.mn.below hb, h.ac.below hb, h.tb.below hb, h.em.below hb, h.ar.below hb⟩
/- The judge: code and its rows, in a block of its own. -/
def Jd (W : World) (g : Nat) (x : CoL) (r : Value) : Prop := W.heap[g]? = some (.cells (x.cells ++ [r]).toArray 70 (0, 0))
theorem Jd.below {W W' : World} {g : Nat} {x : CoL} {r : Value} (h : Jd W g x r) (hb : Below W.heap.size W W') : Jd W' g x r := heap_below hb h
theorem Jd.at {W : World} {g : Nat} {x : CoL} {r : Value} (h : Jd W g x r) : W.cell? ⟨g, 0, none⟩ = some (.slice x.sa x.sl.length x.sc) ∧ W.cell? ⟨g, 1, none⟩ = some (.slice x.ha x.hd.length x.hc) ∧ W.cell? ⟨g, 2, none⟩ = some (.slice x.ma x.mt.length x.mc) ∧ W.cell? ⟨g, 3, none⟩ = some (.slice x.ta x.st.length x.tc) ∧ W.cell? ⟨g, 4, none⟩ = some (.slice x.na x.mn.length x.nc) ∧ W.cell? ⟨g, 5, none⟩ = some (.slice x.aa x.ac.length x.acc) ∧ W.cell? ⟨g, 6, none⟩ = some (.slice x.ba x.tb.length x.bc) ∧ W.cell? ⟨g, 7, none⟩ = some (.slice x.ea x.em.length x.ec) ∧ W.cell? ⟨g, 8, none⟩ = some (.slice x.ra x.ar.length x.rc) ∧ W.cell? ⟨g, 9, none⟩ = some r := by
  unfold Jd at h
  refine ⟨?_, ?_, ?_, ?_, ?_, ?_, ?_, ?_, ?_, ?_⟩
  all_goals (unfold World.cell?; simp only [h]; rfl)
end Go.Proofs.YtlipcmonlhdgfaaGreat
/- Rows of one's own whose elements have memory of their own. -/
namespace Go.Proofs.YtlipcmonlhdgfaaGreat
open Go.RowKit

theorem row_tyK {B e c n : Nat} {W : World} {v : Value} {xs : List Value} (h : W.ownsRow B e c v n xs) {b : Nat} (hb : v.ownBlock = some b) : ∃ cur, W.heap[b]? = some (.cells cur e (0, 0)) := by
  rcases h.2 with ⟨rfl, _⟩ | ⟨g, cap, cur, rfl, _, hh, _⟩
  · cases hb
  · have e : g = b := by simpa [Value.ownBlock] using hb
    subst e
    exact ⟨cur, hh⟩
theorem fold_allK : ∀ (cs pre rest : List Value) (n : Nat), rest.length = cs.length → n = pre.length → List.foldl (fun (A : Array Value) (x : Value × Nat) => A.setIfInBounds x.snd x.fst) (pre ++ rest).toArray (cs.zipIdx n) = (pre ++ cs).toArray
  | [], pre, rest, n, h, _ => by
    have e : rest = [] := List.length_eq_zero_iff.1 (by simpa using h)
    subst e; rfl
  | c :: cs, pre, rest, n, h, hn => by
    obtain ⟨r, rest', rfl⟩ : ∃ r rest', rest = r :: rest' := by cases rest with | nil => simp at h | cons r l => exact ⟨r, l, rfl⟩
    rw [List.zipIdx_cons, List.foldl_cons]
    have e : ((pre ++ r :: rest').toArray).setIfInBounds n c = ((pre ++ [c]) ++ rest').toArray := by
      subst hn; simp
    rw [e, fold_allK cs (pre ++ [c]) rest' (n + 1) (by simpa using h) (by simp [hn])]
    simp
theorem cells_newG (w : World) (cs zs : List Value) (t : TypeId) (h : zs.length = cs.length) : ∀ j u, cs[j]? = some u → (w.alloc (.cells (List.foldl (fun (A : Array Value) (x : Value × Nat) => A.setIfInBounds x.snd x.fst) zs.toArray cs.zipIdx) t)).cell? ((⟨w.heap.size, 0, none⟩ : Addr).add j) = some u := by
  have e := fold_allK cs [] zs 0 h rfl
  rw [List.nil_append, List.nil_append] at e
  rw [e]
  exact cells_newD w cs t
/- What an element keeps of its own: blocks at B or above, of the types ts. -/
structure Kp {α : Type} (ts : List TypeId) (P : World → Nat → α → Prop) : Prop where
  lower : ∀ {W : World} {B B' : Nat} {x : α}, P W B x → B' ≤ B → P W B' x
  fr : ∀ {E : Nat → Prop} {W W' : World} {B : Nat} {x : α}, P W B x → Fr E W W' → (∀ b, E b → b < B ∨ ∃ cs t, t ∉ ts ∧ W.heap[b]? = some (.cells cs t (0, 0))) → P W' B x
theorem Kp.below {α : Type} {ts : List TypeId} {P : World → Nat → α → Prop} (k : Kp ts P) {W W' : World} {B : Nat} {x : α} (h : P W B x) (hb : Below W.heap.size W W') : P W' B x := k.fr h (E := fun _ => False) (Fr.ofBelow hb) (fun _ e => e.elim)
theorem Kp.none {α : Type} : Kp (α := α) [] (fun _ _ _ => True) := ⟨fun h _ => h, fun h _ _ => h⟩
theorem Kp.more {α : Type} {ts us : List TypeId} {P : World → Nat → α → Prop} (k : Kp ts P) (h : ∀ t ∈ ts, t ∈ us) : Kp us P :=
  ⟨k.lower, fun hp hf hE => k.fr hp hf (fun b e => (hE b e).imp id (fun ⟨cs, t, hn, hc⟩ => ⟨cs, t, fun hm => hn (h t hm), hc⟩))⟩
theorem row_frK {E : Nat → Prop} {W W' : World} {B e c n : Nat} {v : Value} {xs : List Value} (h : W.ownsRow B e c v n xs) (hf : Fr E W W') {ts : List TypeId} (ht : e ∈ ts) (hE : ∀ b, E b → b < B ∨ ∃ cs t, t ∉ ts ∧ W.heap[b]? = some (.cells cs t (0, 0))) : W'.ownsRow B e c v n xs := by
  refine owR_fr h hf (fun b hb e1 => ?_)
  have hlt := World.ownsRow.lt h b hb
  rcases hE b e1 with h1 | ⟨cs, t, hn, h2⟩
  · omega
  · obtain ⟨cur, h3⟩ := row_tyK h hb
    rw [h2] at h3
    injection h3 with h3
    injection h3 with _ h3 _
    exact hn (h3 ▸ ht)
/- A twin's list: with a spare one behind it. -/
structure Tl {α : Type} (T c : Nat) (f : α → List Value) (P : World → Nat → α → Prop) (s : List Value) (W : World) (B : Nat) (a : Option Addr) (cap : Nat) (l : List α) : Prop where
  at' : ∃ g, a = some ⟨g, 0, none⟩
  own : W.ownsRow B T c (.slice a (l.length + 1) cap) (l.length + 1) (flat f l ++ s)
  le : l.length + 1 ≤ cap
  mx : cap ≤ maxLen
  ok : ∀ x ∈ l, P W B x
theorem Tl.lower {α : Type} {T c : Nat} {f : α → List Value} {P : World → Nat → α → Prop} {ts : List TypeId} {s : List Value} (k : Kp ts P) {W : World} {B B' : Nat} {a : Option Addr} {cap : Nat} {l : List α} (h : Tl T c f P s W B a cap l) (hb : B' ≤ B) : Tl T c f P s W B' a cap l :=
  ⟨h.at', owR_lower h.own hb, h.le, h.mx, fun x hx => k.lower (h.ok x hx) hb⟩
theorem Tl.fr {α : Type} {T c : Nat} {f : α → List Value} {P : World → Nat → α → Prop} {ts us : List TypeId} {s : List Value} (k : Kp ts P) (hT : T ∈ us) (hus : ∀ t ∈ ts, t ∈ us) {E : Nat → Prop} {W W' : World} {B : Nat} {a : Option Addr} {cap : Nat} {l : List α} (h : Tl T c f P s W B a cap l) (hf : Fr E W W') (hE : ∀ b, E b → b < B ∨ ∃ cs t, t ∉ us ∧ W.heap[b]? = some (.cells cs t (0, 0))) : Tl T c f P s W' B a cap l :=
  ⟨h.at', row_frK h.own hf hT hE, h.le, h.mx, fun x hx => (k.more hus).fr (h.ok x hx) hf hE⟩
theorem Tl.rd {α : Type} {T c : Nat} {f : α → List Value} (hf : ∀ x, (f x).length = c) {P : World → Nat → α → Prop} {s : List Value} {W : World} {B : Nat} {a : Option Addr} {cap : Nat} {l : List α} (h : Tl T c f P s W B a cap l) : LiR W c f a l := by
  obtain ⟨g, rfl⟩ := h.at'
  have hlt := World.ownsRow.lt h.own g rfl
  refine .inr ⟨g, 0, rfl, hlt.2, fun i hi j u hu => ?_⟩
  have hj : j < c := by have := (List.getElem?_eq_some_iff.1 hu).1; rw [hf] at this; exact this
  have h0 := (flat_get hf l i j hi hj).trans hu
  have h2 : (flat f l ++ s)[i * c + j]? = some u := by
    rw [List.getElem?_append_left (by have := (List.getElem?_eq_some_iff.1 h0).1; exact this)]; exact h0
  have h1 := World.ownsRow.cells h.own rfl (i * c + j) _ h2
  rw [Addr.add_mid] at h1
  rw [Nat.zero_add] at h1 ⊢
  exact h1
/- While it is laid. -/
structure Tg {α : Type} (T c : Nat) (f : α → List Value) (P : World → Nat → α → Prop) (w W : World) (v : Value) (l : List α) : Prop where
  bl : Below w.heap.size w W
  own : W.ownsRow w.heap.size T c v l.length (flat f l)
  ok : ∀ x ∈ l, P W w.heap.size x
theorem Tg.put {α : Type} {T c : Nat} {f : α → List Value} {P : World → Nat → α → Prop} {ts : List TypeId} (k : Kp ts P) (hT : T ∉ ts) {w W W7 w8 : World} {v v' : Value} {l : List α} {z : α} (h : Tg T c f P w W v l) (hb : Below W.heap.size W W7) (hz : P W7 W.heap.size z) (O : w8.ownsRow w.heap.size T c v' (l.length + 1) (flat f l ++ f z)) (G : W7.grownBy w8 v.ownBlock) : Tg T c f P w w8 v' (l ++ [z]) := by
  have hf : Fr (fun b => v.ownBlock = some b) W7 w8 := Fr.grown G (fun r e => e)
  have h7 : W7.ownsRow w.heap.size T c v l.length (flat f l) := owR_below h.own hb
  have hE : ∀ b, v.ownBlock = some b → b < w.heap.size ∨ ∃ cs t, t ∉ ts ∧ W7.heap[b]? = some (.cells cs t (0, 0)) := fun b e => by
    obtain ⟨cs, h3⟩ := row_tyK h7 e
    exact .inr ⟨cs, T, hT, h3⟩
  refine ⟨(bstep h.bl hb).trans (hf.below (fun b e => (World.ownsRow.lt h7 b e).1) (bstep h.bl hb).size), ?_, fun x hx => ?_⟩
  · rw [List.length_append, flat_append]
    have : flat f [z] = f z := by simp [flat]
    rw [this]; exact O
  · rcases List.mem_append.1 hx with hx | hx
    · exact k.fr (k.below (h.ok x hx) hb) hf hE
    · obtain rfl := List.mem_singleton.1 hx
      exact k.fr (k.lower hz h.bl.size) hf hE
theorem Tg.done {α : Type} {T c : Nat} {f : α → List Value} {P : World → Nat → α → Prop} {ts : List TypeId} (k : Kp ts P) (hT : T ∉ ts) {w W W7 w8 : World} {v : Value} {l : List α} {s : List Value} {g cap : Nat} (h : Tg T c f P w W v l) (hb : Below W.heap.size W W7) (O : w8.ownsRow w.heap.size T c (.slice (some ⟨g, 0, none⟩) (l.length + 1) cap) (l.length + 1) (flat f l ++ s)) (G : W7.grownBy w8 v.ownBlock) (hc : l.length + 1 ≤ cap) (hm : cap ≤ maxLen) : Below w.heap.size w w8 ∧ Tl T c f P s w8 w.heap.size (some ⟨g, 0, none⟩) cap l := by
  have hf : Fr (fun b => v.ownBlock = some b) W7 w8 := Fr.grown G (fun r e => e)
  have h7 : W7.ownsRow w.heap.size T c v l.length (flat f l) := owR_below h.own hb
  have hE : ∀ b, v.ownBlock = some b → b < w.heap.size ∨ ∃ cs t, t ∉ ts ∧ W7.heap[b]? = some (.cells cs t (0, 0)) := fun b e => by
    obtain ⟨cs, h3⟩ := row_tyK h7 e
    exact .inr ⟨cs, T, hT, h3⟩
  exact ⟨(bstep h.bl hb).trans (hf.below (fun b e => (World.ownsRow.lt h7 b e).1) (bstep h.bl hb).size), ⟨g, rfl⟩, O, hc, hm, fun x hx => k.fr (k.below (h.ok x hx) hb) hf hE⟩
theorem Tg.below {α : Type} {T c : Nat} {f : α → List Value} {P : World → Nat → α → Prop} {ts : List TypeId} (k : Kp ts P) {w W W7 : World} {v : Value} {l : List α} (h : Tg T c f P w W v l) (hb : Below W.heap.size W W7) : Tg T c f P w W7 v l :=
  ⟨bstep h.bl hb, owR_below h.own hb, fun x hx => k.below (h.ok x hx) hb⟩
theorem liZ {W : World} {a : Option Addr} {l : List Int} (h : RdZ W a l) : LiR W 1 intC a l := by
  rcases h with h | ⟨p, off, e, hp, hc⟩
  · exact .inl h
  · refine .inr ⟨p, off, e, hp, fun i hi j u hu => ?_⟩
    have hj : j = 0 := by have := (List.getElem?_eq_some_iff.1 hu).1; simp [intC] at this; exact this
    subst hj
    have : u = .int .i64 l[i] := by simp [intC] at hu; exact hu.symm
    subst this
    rw [Nat.mul_one, Nat.add_zero]; exact hc i hi
theorem zLi {W : World} {a : Option Addr} {l : List Int} (h : LiR W 1 intC a l) : RdZ W a l := by
  rcases h with h | ⟨p, off, e, hp, hc⟩
  · exact .inl h
  · exact .inr ⟨p, off, e, hp, fun i hi => by have := hc i hi 0 _ rfl; rwa [Nat.mul_one, Nat.add_zero] at this⟩
theorem liN {W : World} {a : Option Addr} {l : List Nb} (h : RdN W a l) : LiR W 3 Nb.cells a l := by
  rcases h with h | ⟨p, off, e, hp, hc⟩
  · exact .inl h
  · refine .inr ⟨p, off, e, hp, fun i hi j u hu => ?_⟩
    obtain ⟨h0, h1, h2⟩ := hc i hi
    have hj : j < 3 := by have := (List.getElem?_eq_some_iff.1 hu).1; simpa [Nb.cells] using this
    rcases j with _ | _ | _ | j
    · simp [Nb.cells] at hu; subst hu; exact h0
    · simp [Nb.cells] at hu; subst hu; exact h1
    · simp [Nb.cells] at hu; subst hu; exact h2
    · omega
theorem nLi {W : World} {a : Option Addr} {l : List Nb} (h : LiR W 3 Nb.cells a l) : RdN W a l := by
  rcases h with h | ⟨p, off, e, hp, hc⟩
  · exact .inl h
  · exact .inr ⟨p, off, e, hp, fun i hi => ⟨hc i hi 0 _ rfl, hc i hi 1 _ rfl, hc i hi 2 _ rfl⟩⟩
end Go.Proofs.YtlipcmonlhdgfaaGreat
/- What a twin of code is: the same data, memory of its own. -/
namespace Go.Proofs.YtlipcmonlhdgfaaGreat
open Go.RowKit

def bIn (x : InL) : InL := ⟨x.v, none, 0⟩
def bHd (x : HdL) : HdL := ⟨x.l, none, 0⟩
def bNd (x : NdL) : NdL := ⟨x.hs, none, 0, x.cd.map bIn, none, 0, x.slot, x.js, none, 0, x.to⟩
def bAc (x : AcL) : AcL := ⟨x.name, x.ps, none, 0, x.cd.map bIn, none, 0⟩
def bTa (x : TaL) : TaL := ⟨x.name, x.ks, none, 0, x.kd, none, 0, x.ats, none, 0, x.df, x.gs, none, 0, x.size, x.bf.map bIn, none, 0⟩
def bCo (x : CoL) : CoL := ⟨x.sl, none, 0, x.hd.map bHd, none, 0, x.mt, none, 0, x.st.map bNd, none, 0, x.mn.map bIn, none, 0, x.ac.map bAc, none, 0, x.tb.map bTa, none, 0, x.em, none, 0, x.ar, none, 0⟩
def spZ : List Value := [.int .i64 77]
def spN : List Value := [.int .i64 77, .int .u64 0, .int .u64 0]
def spJ : List Value := [.int .i64 0, .int .u64 0, .int .u64 0, .int .i64 0, .int .u64 0, .int .u64 0, .int .i64 77]
def spK : List Value := [.int .u8 77]
def spY : List Value := [.string ⟨#[]⟩, .int .u8 0, .int .i64 77]
def spI : List Value := [.int .u8 0, .int .i64 77, .int .i64 0, .int .i64 0, .int .i64 0, .int .i64 0, .slice none 0 0, .int .i64 0, .int .u64 0, .int .u64 0, .int .u8 0]
def zT (W : World) (B : Nat) (a : Option Addr) (c : Nat) (l : List Int) : Prop := Tl 3 1 intC (fun _ _ _ => True) spZ W B a c l
def nT (W : World) (B : Nat) (a : Option Addr) (c : Nat) (l : List Nb) : Prop := Tl 56 3 Nb.cells (fun _ _ _ => True) spN W B a c l
def jT (W : World) (B : Nat) (a : Option Addr) (c : Nat) (l : List Jp) : Prop := Tl 129 7 Jp.cells (fun _ _ _ => True) spJ W B a c l
def kT (W : World) (B : Nat) (a : Option Addr) (c : Nat) (l : List Int) : Prop := Tl 132 1 kdC (fun _ _ _ => True) spK W B a c l
def yT (W : World) (B : Nat) (a : Option Addr) (c : Nat) (l : List Ay) : Prop := Tl 75 3 Ay.cells (fun _ _ _ => True) spY W B a c l
def kIn (W : World) (B : Nat) (x : InL) : Prop := zT W B x.la x.lc x.v.l
def kHd (W : World) (B : Nat) (x : HdL) : Prop := zT W B x.a x.c x.l
def iT (W : World) (B : Nat) (a : Option Addr) (c : Nat) (l : List InL) : Prop := Tl 59 11 InL.cells kIn spI W B a c l
def kNd (W : World) (B : Nat) (x : NdL) : Prop := zT W B x.ha x.hc x.hs ∧ iT W B x.ca x.cc x.cd ∧ jT W B x.ja x.jc x.js
def kAc (W : World) (B : Nat) (x : AcL) : Prop := zT W B x.pa x.pc x.ps ∧ iT W B x.ca x.cc x.cd
def kTa (W : World) (B : Nat) (x : TaL) : Prop := zT W B x.ka x.kc x.ks ∧ kT W B x.da x.dc x.kd ∧ zT W B x.aa x.ac x.ats ∧ nT W B x.ga x.gc x.gs ∧ iT W B x.ba x.bc x.bf
def hT (W : World) (B : Nat) (a : Option Addr) (c : Nat) (l : List HdL) : Prop := ∃ s, Tl 91 1 HdL.cells kHd s W B a c l
def dT (W : World) (B : Nat) (a : Option Addr) (c : Nat) (l : List NdL) : Prop := ∃ s, Tl 79 5 NdL.cells kNd s W B a c l
def aT (W : World) (B : Nat) (a : Option Addr) (c : Nat) (l : List AcL) : Prop := ∃ s, Tl 43 3 AcL.cells kAc s W B a c l
def tT (W : World) (B : Nat) (a : Option Addr) (c : Nat) (l : List TaL) : Prop := ∃ s, Tl 41 8 TaL.cells kTa s W B a c l
/- The one frame that all of them keep. -/
def Away (B : Nat) (ts : List TypeId) (W : World) (E : Nat → Prop) : Prop := ∀ b, E b → b < B ∨ ∃ cs t, t ∉ ts ∧ W.heap[b]? = some (.cells cs t (0, 0))
def tsI : List TypeId := [3]
def tsA : List TypeId := [3, 59, 129, 132, 56]
theorem zT.lower {W : World} {B B' : Nat} {a : Option Addr} {c : Nat} {l : List Int} (h : zT W B a c l) (hb : B' ≤ B) : zT W B' a c l := Tl.lower Kp.none h hb
theorem zT.fr {us : List TypeId} (hu : 3 ∈ us) {E : Nat → Prop} {W W' : World} {B : Nat} {a : Option Addr} {c : Nat} {l : List Int} (h : zT W B a c l) (hf : Fr E W W') (hE : Away B us W E) : zT W' B a c l := Tl.fr Kp.none hu (by simp) h hf hE
theorem nT.lower {W : World} {B B' : Nat} {a : Option Addr} {c : Nat} {l : List Nb} (h : nT W B a c l) (hb : B' ≤ B) : nT W B' a c l := Tl.lower Kp.none h hb
theorem nT.fr {us : List TypeId} (hu : 56 ∈ us) {E : Nat → Prop} {W W' : World} {B : Nat} {a : Option Addr} {c : Nat} {l : List Nb} (h : nT W B a c l) (hf : Fr E W W') (hE : Away B us W E) : nT W' B a c l := Tl.fr Kp.none hu (by simp) h hf hE
theorem jT.lower {W : World} {B B' : Nat} {a : Option Addr} {c : Nat} {l : List Jp} (h : jT W B a c l) (hb : B' ≤ B) : jT W B' a c l := Tl.lower Kp.none h hb
theorem jT.fr {us : List TypeId} (hu : 129 ∈ us) {E : Nat → Prop} {W W' : World} {B : Nat} {a : Option Addr} {c : Nat} {l : List Jp} (h : jT W B a c l) (hf : Fr E W W') (hE : Away B us W E) : jT W' B a c l := Tl.fr Kp.none hu (by simp) h hf hE
theorem kT.lower {W : World} {B B' : Nat} {a : Option Addr} {c : Nat} {l : List Int} (h : kT W B a c l) (hb : B' ≤ B) : kT W B' a c l := Tl.lower Kp.none h hb
theorem kT.fr {us : List TypeId} (hu : 132 ∈ us) {E : Nat → Prop} {W W' : World} {B : Nat} {a : Option Addr} {c : Nat} {l : List Int} (h : kT W B a c l) (hf : Fr E W W') (hE : Away B us W E) : kT W' B a c l := Tl.fr Kp.none hu (by simp) h hf hE
theorem yT.lower {W : World} {B B' : Nat} {a : Option Addr} {c : Nat} {l : List Ay} (h : yT W B a c l) (hb : B' ≤ B) : yT W B' a c l := Tl.lower Kp.none h hb
theorem yT.fr {us : List TypeId} (hu : 75 ∈ us) {E : Nat → Prop} {W W' : World} {B : Nat} {a : Option Addr} {c : Nat} {l : List Ay} (h : yT W B a c l) (hf : Fr E W W') (hE : Away B us W E) : yT W' B a c l := Tl.fr Kp.none hu (by simp) h hf hE
theorem kpIn : Kp tsI kIn := ⟨fun h hb => zT.lower h hb, fun h hf hE => zT.fr (by simp [tsI]) h hf hE⟩
theorem kpHd : Kp tsI kHd := ⟨fun h hb => zT.lower h hb, fun h hf hE => zT.fr (by simp [tsI]) h hf hE⟩
theorem iT.lower {W : World} {B B' : Nat} {a : Option Addr} {c : Nat} {l : List InL} (h : iT W B a c l) (hb : B' ≤ B) : iT W B' a c l := Tl.lower kpIn h hb
theorem iT.fr {us : List TypeId} (hu : 59 ∈ us) (hi : 3 ∈ us) {E : Nat → Prop} {W W' : World} {B : Nat} {a : Option Addr} {c : Nat} {l : List InL} (h : iT W B a c l) (hf : Fr E W W') (hE : Away B us W E) : iT W' B a c l := Tl.fr kpIn hu (by simpa [tsI] using hi) h hf hE
theorem kpNd : Kp tsA kNd := ⟨fun h hb => ⟨h.1.lower hb, h.2.1.lower hb, h.2.2.lower hb⟩, fun h hf hE => ⟨zT.fr (by simp [tsA]) h.1 hf hE, iT.fr (by simp [tsA]) (by simp [tsA]) h.2.1 hf hE, jT.fr (by simp [tsA]) h.2.2 hf hE⟩⟩
theorem kpAc : Kp tsA kAc := ⟨fun h hb => ⟨h.1.lower hb, h.2.lower hb⟩, fun h hf hE => ⟨zT.fr (by simp [tsA]) h.1 hf hE, iT.fr (by simp [tsA]) (by simp [tsA]) h.2 hf hE⟩⟩
theorem kpTa : Kp tsA kTa := ⟨fun h hb => ⟨h.1.lower hb, h.2.1.lower hb, h.2.2.1.lower hb, h.2.2.2.1.lower hb, h.2.2.2.2.lower hb⟩, fun h hf hE => ⟨zT.fr (by simp [tsA]) h.1 hf hE, kT.fr (by simp [tsA]) h.2.1 hf hE, zT.fr (by simp [tsA]) h.2.2.1 hf hE, nT.fr (by simp [tsA]) h.2.2.2.1 hf hE, iT.fr (by simp [tsA]) (by simp [tsA]) h.2.2.2.2 hf hE⟩⟩
def tsU : List TypeId := [3, 59, 129, 132, 56, 91, 79, 43, 41, 75]
theorem hT.lower {W : World} {B B' : Nat} {a : Option Addr} {c : Nat} {l : List HdL} (h : hT W B a c l) (hb : B' ≤ B) : hT W B' a c l := by
  obtain ⟨s, h⟩ := h
  exact ⟨s, Tl.lower kpHd h hb⟩
theorem hT.fr {us : List TypeId} (hu : 91 ∈ us) (hs : ∀ t ∈ tsI, t ∈ us) {E : Nat → Prop} {W W' : World} {B : Nat} {a : Option Addr} {c : Nat} {l : List HdL} (h : hT W B a c l) (hf : Fr E W W') (hE : Away B us W E) : hT W' B a c l := by
  obtain ⟨s, h⟩ := h
  exact ⟨s, Tl.fr kpHd hu hs h hf hE⟩
theorem dT.lower {W : World} {B B' : Nat} {a : Option Addr} {c : Nat} {l : List NdL} (h : dT W B a c l) (hb : B' ≤ B) : dT W B' a c l := by
  obtain ⟨s, h⟩ := h
  exact ⟨s, Tl.lower kpNd h hb⟩
theorem dT.fr {us : List TypeId} (hu : 79 ∈ us) (hs : ∀ t ∈ tsA, t ∈ us) {E : Nat → Prop} {W W' : World} {B : Nat} {a : Option Addr} {c : Nat} {l : List NdL} (h : dT W B a c l) (hf : Fr E W W') (hE : Away B us W E) : dT W' B a c l := by
  obtain ⟨s, h⟩ := h
  exact ⟨s, Tl.fr kpNd hu hs h hf hE⟩
theorem aT.lower {W : World} {B B' : Nat} {a : Option Addr} {c : Nat} {l : List AcL} (h : aT W B a c l) (hb : B' ≤ B) : aT W B' a c l := by
  obtain ⟨s, h⟩ := h
  exact ⟨s, Tl.lower kpAc h hb⟩
theorem aT.fr {us : List TypeId} (hu : 43 ∈ us) (hs : ∀ t ∈ tsA, t ∈ us) {E : Nat → Prop} {W W' : World} {B : Nat} {a : Option Addr} {c : Nat} {l : List AcL} (h : aT W B a c l) (hf : Fr E W W') (hE : Away B us W E) : aT W' B a c l := by
  obtain ⟨s, h⟩ := h
  exact ⟨s, Tl.fr kpAc hu hs h hf hE⟩
theorem tT.lower {W : World} {B B' : Nat} {a : Option Addr} {c : Nat} {l : List TaL} (h : tT W B a c l) (hb : B' ≤ B) : tT W B' a c l := by
  obtain ⟨s, h⟩ := h
  exact ⟨s, Tl.lower kpTa h hb⟩
theorem tT.fr {us : List TypeId} (hu : 41 ∈ us) (hs : ∀ t ∈ tsA, t ∈ us) {E : Nat → Prop} {W W' : World} {B : Nat} {a : Option Addr} {c : Nat} {l : List TaL} (h : tT W B a c l) (hf : Fr E W W') (hE : Away B us W E) : tT W' B a c l := by
  obtain ⟨s, h⟩ := h
  exact ⟨s, Tl.fr kpTa hu hs h hf hE⟩
end Go.Proofs.YtlipcmonlhdgfaaGreat
