/- package match: numbers, matches, entries and tables as plain data, and what is asked of them (no walk). -/
import Derived.Test.YthkhdmdllhbfeaaWCk
namespace Go.Proofs.Ythkhdmdllhbfeaa
open Go.RowKit

structure Nb where
  w : Int
  hi : Int
  lo : Int
structure Mx where
  v : Nb
  m : Nb
  len : Int
structure En where
  ms : List Mx
  prio : Int
  act : ByteArray
  args : List Nb
structure Tb where
  ks : List Nat
  ws : List Int
  size : Int
def Nb.val (b : Nb) : Value := .agg #[.int .i64 b.w, .int .u64 b.hi, .int .u64 b.lo]
def Mx.val (m : Mx) : Value := .agg #[.int .i64 m.v.w, .int .u64 m.v.hi, .int .u64 m.v.lo, .int .i64 m.m.w, .int .u64 m.m.hi, .int .u64 m.m.lo, .int .i64 m.len]
def i64R (n : Int) : Prop := -9223372036854775808 ≤ n ∧ n < 9223372036854775808
def u64R (n : Int) : Prop := 0 ≤ n ∧ n < 18446744073709551616
structure NbR (b : Nb) : Prop where
  w : i64R b.w
  hi : u64R b.hi
  lo : u64R b.lo
structure MxR (x : Mx) : Prop where
  v : NbR x.v
  m : NbR x.m
  len : i64R x.len
def Nb.ok (b : Nb) : Bool := okB b.w b.hi b.lo
def Nb.eq (a b : Nb) : Bool := a.w == b.w && (a.hi == b.hi && a.lo == b.lo)
def Mx.eq (a b : Mx) : Bool := a.v.eq b.v && (a.m.eq b.m && a.len == b.len)
def nb0 : Nb := ⟨0, 0, 0⟩
def wide (b : Nb) (w : Int) : Bool := b.w == w && b.ok
def fromB (a n b : Int) : Bool := decide (a ≤ n) && decide (n ≤ b)
def covB (m b : Nb) : Bool := bits .andNot .u64 b.hi m.hi == 0 && bits .andNot .u64 b.lo m.lo == 0
def aliB (a b m : Nb) : Bool := bits .and .u64 (bits .xor .u64 a.hi b.hi) m.hi == 0 && bits .and .u64 (bits .xor .u64 a.lo b.lo) m.lo == 0
def atmB (a b : Nb) : Bool := decide (a.hi < b.hi) || (a.hi == b.hi && decide (a.lo ≤ b.lo))
def ofB (n hi lo : Int) : Nb := if mayBe n then ⟨n, cHi n hi, cLo n lo⟩ else nb0
def ones : Int := 18446744073709551615
def fstB (w n : Int) : Nb := ⟨w, bits .andNot .u64 (ofB w ones ones).hi (ofB (w - n) ones ones).hi, bits .andNot .u64 (ofB w ones ones).lo (ofB (w - n) ones ones).lo⟩
/- May a match of a key so wide be an entry's? -/
def mayK (k : Nat) (m : Mx) (w : Int) : Bool :=
  match k with
  | 1 => m.m.eq nb0 && m.len == 0
  | 2 => m.m.eq nb0 && (fromB 0 m.len w && covB (fstB w m.len) m.v)
  | 3 => wide m.m w && (covB m.m m.v && m.len == 0)
  | _ => wide m.m w && (atmB m.v m.m && m.len == 0)
def matK (k : Nat) (m : Mx) (key : Nb) : Bool :=
  match k with
  | 1 => key.eq m.v
  | 2 => fromB 0 m.len key.w && aliB key m.v (fstB key.w m.len)
  | 3 => wide m.m key.w && aliB key m.v m.m
  | _ => wide m.m key.w && (atmB m.v key && atmB key m.m)
def Pure (F : Nat) (args : Array Value) (v : Value) : Prop := ∀ w, Calls Try.prog F args w fun e w' => e = .returned v ∧ Below w.heap.size w w'
end Go.Proofs.Ythkhdmdllhbfeaa
