/- pointsmanlaw01.BitsRings, walked over a table of what its calls answer. -/
import Derived.Test.YtbaihikhmmhnpaaDoorOrd
import Derived.Test.YtbaihikhmmhnpaaDoorMv
import Derived.Test.YtbaihikhmmhnpaaDoorClassL
namespace Go.Proofs.YtbaihikhmmhnpaaDoor
open Go.RowKit

structure RgIs (n ah al bh bl ch cl sh sl th tl uh ul ph pl qh ql eh el fh fl gh gl ih il jh jl xh xl yh yl vh vl : Int) (op x y r : Value) : Prop where
  out :
    (op = .int .u8 5 ∧ x = (.agg #[.int .i64 n, .int .u64 ah, .int .u64 al]) ∧ y = (.agg #[.int .i64 n, .int .u64 bh, .int .u64 bl]) ∧ r = (.agg #[.int .i64 n, .int .u64 sh, .int .u64 sl])) ∨
    (op = .int .u8 6 ∧ x = (.agg #[.int .i64 n, .int .u64 ah, .int .u64 al]) ∧ y = (.agg #[.int .i64 n, .int .u64 ah, .int .u64 al]) ∧ r = (.agg #[.int .i64 n, .int .u64 0, .int .u64 0])) ∨
    (op = .int .u8 11 ∧ x = (.agg #[.int .i64 n, .int .u64 ah, .int .u64 al]) ∧ y = (.agg #[.int .i64 n, .int .u64 ah, .int .u64 al]) ∧ r = (.agg #[.int .i64 n, .int .u64 th, .int .u64 tl])) ∨
    (op = .int .u8 5 ∧ x = (.agg #[.int .i64 n, .int .u64 th, .int .u64 tl]) ∧ y = (.agg #[.int .i64 n, .int .u64 0, .int .u64 1]) ∧ r = (.agg #[.int .i64 n, .int .u64 uh, .int .u64 ul])) ∨
    (op = .int .u8 5 ∧ x = (.agg #[.int .i64 n, .int .u64 bh, .int .u64 bl]) ∧ y = (.agg #[.int .i64 n, .int .u64 ah, .int .u64 al]) ∧ r = (.agg #[.int .i64 n, .int .u64 sh, .int .u64 sl])) ∨
    (op = .int .u8 6 ∧ x = (.agg #[.int .i64 n, .int .u64 sh, .int .u64 sl]) ∧ y = (.agg #[.int .i64 n, .int .u64 bh, .int .u64 bl]) ∧ r = (.agg #[.int .i64 n, .int .u64 ah, .int .u64 al])) ∨
    (op = .int .u8 7 ∧ x = (.agg #[.int .i64 n, .int .u64 ah, .int .u64 al]) ∧ y = (.agg #[.int .i64 n, .int .u64 bh, .int .u64 bl]) ∧ r = (.agg #[.int .i64 n, .int .u64 ph, .int .u64 pl])) ∨
    (op = .int .u8 7 ∧ x = (.agg #[.int .i64 n, .int .u64 bh, .int .u64 bl]) ∧ y = (.agg #[.int .i64 n, .int .u64 ah, .int .u64 al]) ∧ r = (.agg #[.int .i64 n, .int .u64 ph, .int .u64 pl])) ∨
    (op = .int .u8 5 ∧ x = (.agg #[.int .i64 n, .int .u64 sh, .int .u64 sl]) ∧ y = (.agg #[.int .i64 n, .int .u64 ch, .int .u64 cl]) ∧ r = (.agg #[.int .i64 n, .int .u64 eh, .int .u64 el])) ∨
    (op = .int .u8 5 ∧ x = (.agg #[.int .i64 n, .int .u64 bh, .int .u64 bl]) ∧ y = (.agg #[.int .i64 n, .int .u64 ch, .int .u64 cl]) ∧ r = (.agg #[.int .i64 n, .int .u64 qh, .int .u64 ql])) ∨
    (op = .int .u8 5 ∧ x = (.agg #[.int .i64 n, .int .u64 ah, .int .u64 al]) ∧ y = (.agg #[.int .i64 n, .int .u64 qh, .int .u64 ql]) ∧ r = (.agg #[.int .i64 n, .int .u64 eh, .int .u64 el])) ∨
    (op = .int .u8 7 ∧ x = (.agg #[.int .i64 n, .int .u64 ph, .int .u64 pl]) ∧ y = (.agg #[.int .i64 n, .int .u64 ch, .int .u64 cl]) ∧ r = (.agg #[.int .i64 n, .int .u64 fh, .int .u64 fl])) ∨
    (op = .int .u8 7 ∧ x = (.agg #[.int .i64 n, .int .u64 bh, .int .u64 bl]) ∧ y = (.agg #[.int .i64 n, .int .u64 ch, .int .u64 cl]) ∧ r = (.agg #[.int .i64 n, .int .u64 gh, .int .u64 gl])) ∨
    (op = .int .u8 7 ∧ x = (.agg #[.int .i64 n, .int .u64 ah, .int .u64 al]) ∧ y = (.agg #[.int .i64 n, .int .u64 gh, .int .u64 gl]) ∧ r = (.agg #[.int .i64 n, .int .u64 fh, .int .u64 fl])) ∨
    (op = .int .u8 7 ∧ x = (.agg #[.int .i64 n, .int .u64 sh, .int .u64 sl]) ∧ y = (.agg #[.int .i64 n, .int .u64 ch, .int .u64 cl]) ∧ r = (.agg #[.int .i64 n, .int .u64 ih, .int .u64 il])) ∨
    (op = .int .u8 7 ∧ x = (.agg #[.int .i64 n, .int .u64 ah, .int .u64 al]) ∧ y = (.agg #[.int .i64 n, .int .u64 ch, .int .u64 cl]) ∧ r = (.agg #[.int .i64 n, .int .u64 jh, .int .u64 jl])) ∨
    (op = .int .u8 5 ∧ x = (.agg #[.int .i64 n, .int .u64 jh, .int .u64 jl]) ∧ y = (.agg #[.int .i64 n, .int .u64 gh, .int .u64 gl]) ∧ r = (.agg #[.int .i64 n, .int .u64 ih, .int .u64 il])) ∨
    (op = .int .u8 7 ∧ x = (.agg #[.int .i64 n, .int .u64 ah, .int .u64 al]) ∧ y = (.agg #[.int .i64 n, .int .u64 0, .int .u64 1]) ∧ r = (.agg #[.int .i64 n, .int .u64 ah, .int .u64 al])) ∨
    (op = .int .u8 6 ∧ x = (.agg #[.int .i64 n, .int .u64 0, .int .u64 0]) ∧ y = (.agg #[.int .i64 n, .int .u64 ah, .int .u64 al]) ∧ r = (.agg #[.int .i64 n, .int .u64 uh, .int .u64 ul])) ∨
    (op = .int .u8 10 ∧ x = (.agg #[.int .i64 n, .int .u64 ah, .int .u64 al]) ∧ y = (.agg #[.int .i64 n, .int .u64 bh, .int .u64 bl]) ∧ r = (.agg #[.int .i64 n, .int .u64 xh, .int .u64 xl])) ∨
    (op = .int .u8 8 ∧ x = (.agg #[.int .i64 n, .int .u64 ah, .int .u64 al]) ∧ y = (.agg #[.int .i64 n, .int .u64 bh, .int .u64 bl]) ∧ r = (.agg #[.int .i64 n, .int .u64 yh, .int .u64 yl])) ∨
    (op = .int .u8 12 ∧ x = (.agg #[.int .i64 n, .int .u64 yh, .int .u64 yl]) ∧ y = (.agg #[.int .i64 n, .int .u64 0, .int .u64 1]) ∧ r = (.agg #[.int .i64 n, .int .u64 vh, .int .u64 vl])) ∨
    (op = .int .u8 5 ∧ x = (.agg #[.int .i64 n, .int .u64 xh, .int .u64 xl]) ∧ y = (.agg #[.int .i64 n, .int .u64 vh, .int .u64 vl]) ∧ r = (.agg #[.int .i64 n, .int .u64 sh, .int .u64 sl]))
theorem RgIs.c1 {n ah al bh bl ch cl sh sl th tl uh ul ph pl qh ql eh el fh fl gh gl ih il jh jl xh xl yh yl vh vl : Int} : RgIs n ah al bh bl ch cl sh sl th tl uh ul ph pl qh ql eh el fh fl gh gl ih il jh jl xh xl yh yl vh vl (.int .u8 5) (.agg #[.int .i64 n, .int .u64 ah, .int .u64 al]) (.agg #[.int .i64 n, .int .u64 bh, .int .u64 bl]) (.agg #[.int .i64 n, .int .u64 sh, .int .u64 sl]) := by
  exact ⟨Or.inl ⟨rfl, rfl, rfl, rfl⟩⟩
theorem RgIs.c2 {n ah al bh bl ch cl sh sl th tl uh ul ph pl qh ql eh el fh fl gh gl ih il jh jl xh xl yh yl vh vl : Int} : RgIs n ah al bh bl ch cl sh sl th tl uh ul ph pl qh ql eh el fh fl gh gl ih il jh jl xh xl yh yl vh vl (.int .u8 6) (.agg #[.int .i64 n, .int .u64 ah, .int .u64 al]) (.agg #[.int .i64 n, .int .u64 ah, .int .u64 al]) (.agg #[.int .i64 n, .int .u64 0, .int .u64 0]) := by
  exact ⟨Or.inr (Or.inl ⟨rfl, rfl, rfl, rfl⟩)⟩
theorem RgIs.c3 {n ah al bh bl ch cl sh sl th tl uh ul ph pl qh ql eh el fh fl gh gl ih il jh jl xh xl yh yl vh vl : Int} : RgIs n ah al bh bl ch cl sh sl th tl uh ul ph pl qh ql eh el fh fl gh gl ih il jh jl xh xl yh yl vh vl (.int .u8 11) (.agg #[.int .i64 n, .int .u64 ah, .int .u64 al]) (.agg #[.int .i64 n, .int .u64 ah, .int .u64 al]) (.agg #[.int .i64 n, .int .u64 th, .int .u64 tl]) := by
  exact ⟨Or.inr (Or.inr (Or.inl ⟨rfl, rfl, rfl, rfl⟩))⟩
theorem RgIs.c4 {n ah al bh bl ch cl sh sl th tl uh ul ph pl qh ql eh el fh fl gh gl ih il jh jl xh xl yh yl vh vl : Int} : RgIs n ah al bh bl ch cl sh sl th tl uh ul ph pl qh ql eh el fh fl gh gl ih il jh jl xh xl yh yl vh vl (.int .u8 5) (.agg #[.int .i64 n, .int .u64 th, .int .u64 tl]) (.agg #[.int .i64 n, .int .u64 0, .int .u64 1]) (.agg #[.int .i64 n, .int .u64 uh, .int .u64 ul]) := by
  exact ⟨Or.inr (Or.inr (Or.inr (Or.inl ⟨rfl, rfl, rfl, rfl⟩)))⟩
theorem RgIs.c5 {n ah al bh bl ch cl sh sl th tl uh ul ph pl qh ql eh el fh fl gh gl ih il jh jl xh xl yh yl vh vl : Int} : RgIs n ah al bh bl ch cl sh sl th tl uh ul ph pl qh ql eh el fh fl gh gl ih il jh jl xh xl yh yl vh vl (.int .u8 5) (.agg #[.int .i64 n, .int .u64 bh, .int .u64 bl]) (.agg #[.int .i64 n, .int .u64 ah, .int .u64 al]) (.agg #[.int .i64 n, .int .u64 sh, .int .u64 sl]) := by
  exact ⟨Or.inr (Or.inr (Or.inr (Or.inr (Or.inl ⟨rfl, rfl, rfl, rfl⟩))))⟩
theorem RgIs.c6 {n ah al bh bl ch cl sh sl th tl uh ul ph pl qh ql eh el fh fl gh gl ih il jh jl xh xl yh yl vh vl : Int} : RgIs n ah al bh bl ch cl sh sl th tl uh ul ph pl qh ql eh el fh fl gh gl ih il jh jl xh xl yh yl vh vl (.int .u8 6) (.agg #[.int .i64 n, .int .u64 sh, .int .u64 sl]) (.agg #[.int .i64 n, .int .u64 bh, .int .u64 bl]) (.agg #[.int .i64 n, .int .u64 ah, .int .u64 al]) := by
  exact ⟨Or.inr (Or.inr (Or.inr (Or.inr (Or.inr (Or.inl ⟨rfl, rfl, rfl, rfl⟩)))))⟩
theorem RgIs.c7 {n ah al bh bl ch cl sh sl th tl uh ul ph pl qh ql eh el fh fl gh gl ih il jh jl xh xl yh yl vh vl : Int} : RgIs n ah al bh bl ch cl sh sl th tl uh ul ph pl qh ql eh el fh fl gh gl ih il jh jl xh xl yh yl vh vl (.int .u8 7) (.agg #[.int .i64 n, .int .u64 ah, .int .u64 al]) (.agg #[.int .i64 n, .int .u64 bh, .int .u64 bl]) (.agg #[.int .i64 n, .int .u64 ph, .int .u64 pl]) := by
  exact ⟨Or.inr (Or.inr (Or.inr (Or.inr (Or.inr (Or.inr (Or.inl ⟨rfl, rfl, rfl, rfl⟩))))))⟩
theorem RgIs.c8 {n ah al bh bl ch cl sh sl th tl uh ul ph pl qh ql eh el fh fl gh gl ih il jh jl xh xl yh yl vh vl : Int} : RgIs n ah al bh bl ch cl sh sl th tl uh ul ph pl qh ql eh el fh fl gh gl ih il jh jl xh xl yh yl vh vl (.int .u8 7) (.agg #[.int .i64 n, .int .u64 bh, .int .u64 bl]) (.agg #[.int .i64 n, .int .u64 ah, .int .u64 al]) (.agg #[.int .i64 n, .int .u64 ph, .int .u64 pl]) := by
  exact ⟨Or.inr (Or.inr (Or.inr (Or.inr (Or.inr (Or.inr (Or.inr (Or.inl ⟨rfl, rfl, rfl, rfl⟩)))))))⟩
theorem RgIs.c9 {n ah al bh bl ch cl sh sl th tl uh ul ph pl qh ql eh el fh fl gh gl ih il jh jl xh xl yh yl vh vl : Int} : RgIs n ah al bh bl ch cl sh sl th tl uh ul ph pl qh ql eh el fh fl gh gl ih il jh jl xh xl yh yl vh vl (.int .u8 5) (.agg #[.int .i64 n, .int .u64 sh, .int .u64 sl]) (.agg #[.int .i64 n, .int .u64 ch, .int .u64 cl]) (.agg #[.int .i64 n, .int .u64 eh, .int .u64 el]) := by
  exact ⟨Or.inr (Or.inr (Or.inr (Or.inr (Or.inr (Or.inr (Or.inr (Or.inr (Or.inl ⟨rfl, rfl, rfl, rfl⟩))))))))⟩
theorem RgIs.c10 {n ah al bh bl ch cl sh sl th tl uh ul ph pl qh ql eh el fh fl gh gl ih il jh jl xh xl yh yl vh vl : Int} : RgIs n ah al bh bl ch cl sh sl th tl uh ul ph pl qh ql eh el fh fl gh gl ih il jh jl xh xl yh yl vh vl (.int .u8 5) (.agg #[.int .i64 n, .int .u64 bh, .int .u64 bl]) (.agg #[.int .i64 n, .int .u64 ch, .int .u64 cl]) (.agg #[.int .i64 n, .int .u64 qh, .int .u64 ql]) := by
  exact ⟨Or.inr (Or.inr (Or.inr (Or.inr (Or.inr (Or.inr (Or.inr (Or.inr (Or.inr (Or.inl ⟨rfl, rfl, rfl, rfl⟩)))))))))⟩
theorem RgIs.c11 {n ah al bh bl ch cl sh sl th tl uh ul ph pl qh ql eh el fh fl gh gl ih il jh jl xh xl yh yl vh vl : Int} : RgIs n ah al bh bl ch cl sh sl th tl uh ul ph pl qh ql eh el fh fl gh gl ih il jh jl xh xl yh yl vh vl (.int .u8 5) (.agg #[.int .i64 n, .int .u64 ah, .int .u64 al]) (.agg #[.int .i64 n, .int .u64 qh, .int .u64 ql]) (.agg #[.int .i64 n, .int .u64 eh, .int .u64 el]) := by
  exact ⟨Or.inr (Or.inr (Or.inr (Or.inr (Or.inr (Or.inr (Or.inr (Or.inr (Or.inr (Or.inr (Or.inl ⟨rfl, rfl, rfl, rfl⟩))))))))))⟩
theorem RgIs.c12 {n ah al bh bl ch cl sh sl th tl uh ul ph pl qh ql eh el fh fl gh gl ih il jh jl xh xl yh yl vh vl : Int} : RgIs n ah al bh bl ch cl sh sl th tl uh ul ph pl qh ql eh el fh fl gh gl ih il jh jl xh xl yh yl vh vl (.int .u8 7) (.agg #[.int .i64 n, .int .u64 ph, .int .u64 pl]) (.agg #[.int .i64 n, .int .u64 ch, .int .u64 cl]) (.agg #[.int .i64 n, .int .u64 fh, .int .u64 fl]) := by
  exact ⟨Or.inr (Or.inr (Or.inr (Or.inr (Or.inr (Or.inr (Or.inr (Or.inr (Or.inr (Or.inr (Or.inr (Or.inl ⟨rfl, rfl, rfl, rfl⟩)))))))))))⟩
theorem RgIs.c13 {n ah al bh bl ch cl sh sl th tl uh ul ph pl qh ql eh el fh fl gh gl ih il jh jl xh xl yh yl vh vl : Int} : RgIs n ah al bh bl ch cl sh sl th tl uh ul ph pl qh ql eh el fh fl gh gl ih il jh jl xh xl yh yl vh vl (.int .u8 7) (.agg #[.int .i64 n, .int .u64 bh, .int .u64 bl]) (.agg #[.int .i64 n, .int .u64 ch, .int .u64 cl]) (.agg #[.int .i64 n, .int .u64 gh, .int .u64 gl]) := by
  exact ⟨Or.inr (Or.inr (Or.inr (Or.inr (Or.inr (Or.inr (Or.inr (Or.inr (Or.inr (Or.inr (Or.inr (Or.inr (Or.inl ⟨rfl, rfl, rfl, rfl⟩))))))))))))⟩
theorem RgIs.c14 {n ah al bh bl ch cl sh sl th tl uh ul ph pl qh ql eh el fh fl gh gl ih il jh jl xh xl yh yl vh vl : Int} : RgIs n ah al bh bl ch cl sh sl th tl uh ul ph pl qh ql eh el fh fl gh gl ih il jh jl xh xl yh yl vh vl (.int .u8 7) (.agg #[.int .i64 n, .int .u64 ah, .int .u64 al]) (.agg #[.int .i64 n, .int .u64 gh, .int .u64 gl]) (.agg #[.int .i64 n, .int .u64 fh, .int .u64 fl]) := by
  exact ⟨Or.inr (Or.inr (Or.inr (Or.inr (Or.inr (Or.inr (Or.inr (Or.inr (Or.inr (Or.inr (Or.inr (Or.inr (Or.inr (Or.inl ⟨rfl, rfl, rfl, rfl⟩)))))))))))))⟩
theorem RgIs.c15 {n ah al bh bl ch cl sh sl th tl uh ul ph pl qh ql eh el fh fl gh gl ih il jh jl xh xl yh yl vh vl : Int} : RgIs n ah al bh bl ch cl sh sl th tl uh ul ph pl qh ql eh el fh fl gh gl ih il jh jl xh xl yh yl vh vl (.int .u8 7) (.agg #[.int .i64 n, .int .u64 sh, .int .u64 sl]) (.agg #[.int .i64 n, .int .u64 ch, .int .u64 cl]) (.agg #[.int .i64 n, .int .u64 ih, .int .u64 il]) := by
  exact ⟨Or.inr (Or.inr (Or.inr (Or.inr (Or.inr (Or.inr (Or.inr (Or.inr (Or.inr (Or.inr (Or.inr (Or.inr (Or.inr (Or.inr (Or.inl ⟨rfl, rfl, rfl, rfl⟩))))))))))))))⟩
theorem RgIs.c16 {n ah al bh bl ch cl sh sl th tl uh ul ph pl qh ql eh el fh fl gh gl ih il jh jl xh xl yh yl vh vl : Int} : RgIs n ah al bh bl ch cl sh sl th tl uh ul ph pl qh ql eh el fh fl gh gl ih il jh jl xh xl yh yl vh vl (.int .u8 7) (.agg #[.int .i64 n, .int .u64 ah, .int .u64 al]) (.agg #[.int .i64 n, .int .u64 ch, .int .u64 cl]) (.agg #[.int .i64 n, .int .u64 jh, .int .u64 jl]) := by
  exact ⟨Or.inr (Or.inr (Or.inr (Or.inr (Or.inr (Or.inr (Or.inr (Or.inr (Or.inr (Or.inr (Or.inr (Or.inr (Or.inr (Or.inr (Or.inr (Or.inl ⟨rfl, rfl, rfl, rfl⟩)))))))))))))))⟩
theorem RgIs.c17 {n ah al bh bl ch cl sh sl th tl uh ul ph pl qh ql eh el fh fl gh gl ih il jh jl xh xl yh yl vh vl : Int} : RgIs n ah al bh bl ch cl sh sl th tl uh ul ph pl qh ql eh el fh fl gh gl ih il jh jl xh xl yh yl vh vl (.int .u8 5) (.agg #[.int .i64 n, .int .u64 jh, .int .u64 jl]) (.agg #[.int .i64 n, .int .u64 gh, .int .u64 gl]) (.agg #[.int .i64 n, .int .u64 ih, .int .u64 il]) := by
  exact ⟨Or.inr (Or.inr (Or.inr (Or.inr (Or.inr (Or.inr (Or.inr (Or.inr (Or.inr (Or.inr (Or.inr (Or.inr (Or.inr (Or.inr (Or.inr (Or.inr (Or.inl ⟨rfl, rfl, rfl, rfl⟩))))))))))))))))⟩
theorem RgIs.c18 {n ah al bh bl ch cl sh sl th tl uh ul ph pl qh ql eh el fh fl gh gl ih il jh jl xh xl yh yl vh vl : Int} : RgIs n ah al bh bl ch cl sh sl th tl uh ul ph pl qh ql eh el fh fl gh gl ih il jh jl xh xl yh yl vh vl (.int .u8 7) (.agg #[.int .i64 n, .int .u64 ah, .int .u64 al]) (.agg #[.int .i64 n, .int .u64 0, .int .u64 1]) (.agg #[.int .i64 n, .int .u64 ah, .int .u64 al]) := by
  exact ⟨Or.inr (Or.inr (Or.inr (Or.inr (Or.inr (Or.inr (Or.inr (Or.inr (Or.inr (Or.inr (Or.inr (Or.inr (Or.inr (Or.inr (Or.inr (Or.inr (Or.inr (Or.inl ⟨rfl, rfl, rfl, rfl⟩)))))))))))))))))⟩
theorem RgIs.c19 {n ah al bh bl ch cl sh sl th tl uh ul ph pl qh ql eh el fh fl gh gl ih il jh jl xh xl yh yl vh vl : Int} : RgIs n ah al bh bl ch cl sh sl th tl uh ul ph pl qh ql eh el fh fl gh gl ih il jh jl xh xl yh yl vh vl (.int .u8 6) (.agg #[.int .i64 n, .int .u64 0, .int .u64 0]) (.agg #[.int .i64 n, .int .u64 ah, .int .u64 al]) (.agg #[.int .i64 n, .int .u64 uh, .int .u64 ul]) := by
  exact ⟨Or.inr (Or.inr (Or.inr (Or.inr (Or.inr (Or.inr (Or.inr (Or.inr (Or.inr (Or.inr (Or.inr (Or.inr (Or.inr (Or.inr (Or.inr (Or.inr (Or.inr (Or.inr (Or.inl ⟨rfl, rfl, rfl, rfl⟩))))))))))))))))))⟩
theorem RgIs.c20 {n ah al bh bl ch cl sh sl th tl uh ul ph pl qh ql eh el fh fl gh gl ih il jh jl xh xl yh yl vh vl : Int} : RgIs n ah al bh bl ch cl sh sl th tl uh ul ph pl qh ql eh el fh fl gh gl ih il jh jl xh xl yh yl vh vl (.int .u8 10) (.agg #[.int .i64 n, .int .u64 ah, .int .u64 al]) (.agg #[.int .i64 n, .int .u64 bh, .int .u64 bl]) (.agg #[.int .i64 n, .int .u64 xh, .int .u64 xl]) := by
  exact ⟨Or.inr (Or.inr (Or.inr (Or.inr (Or.inr (Or.inr (Or.inr (Or.inr (Or.inr (Or.inr (Or.inr (Or.inr (Or.inr (Or.inr (Or.inr (Or.inr (Or.inr (Or.inr (Or.inr (Or.inl ⟨rfl, rfl, rfl, rfl⟩)))))))))))))))))))⟩
theorem RgIs.c21 {n ah al bh bl ch cl sh sl th tl uh ul ph pl qh ql eh el fh fl gh gl ih il jh jl xh xl yh yl vh vl : Int} : RgIs n ah al bh bl ch cl sh sl th tl uh ul ph pl qh ql eh el fh fl gh gl ih il jh jl xh xl yh yl vh vl (.int .u8 8) (.agg #[.int .i64 n, .int .u64 ah, .int .u64 al]) (.agg #[.int .i64 n, .int .u64 bh, .int .u64 bl]) (.agg #[.int .i64 n, .int .u64 yh, .int .u64 yl]) := by
  exact ⟨Or.inr (Or.inr (Or.inr (Or.inr (Or.inr (Or.inr (Or.inr (Or.inr (Or.inr (Or.inr (Or.inr (Or.inr (Or.inr (Or.inr (Or.inr (Or.inr (Or.inr (Or.inr (Or.inr (Or.inr (Or.inl ⟨rfl, rfl, rfl, rfl⟩))))))))))))))))))))⟩
theorem RgIs.c22 {n ah al bh bl ch cl sh sl th tl uh ul ph pl qh ql eh el fh fl gh gl ih il jh jl xh xl yh yl vh vl : Int} : RgIs n ah al bh bl ch cl sh sl th tl uh ul ph pl qh ql eh el fh fl gh gl ih il jh jl xh xl yh yl vh vl (.int .u8 12) (.agg #[.int .i64 n, .int .u64 yh, .int .u64 yl]) (.agg #[.int .i64 n, .int .u64 0, .int .u64 1]) (.agg #[.int .i64 n, .int .u64 vh, .int .u64 vl]) := by
  exact ⟨Or.inr (Or.inr (Or.inr (Or.inr (Or.inr (Or.inr (Or.inr (Or.inr (Or.inr (Or.inr (Or.inr (Or.inr (Or.inr (Or.inr (Or.inr (Or.inr (Or.inr (Or.inr (Or.inr (Or.inr (Or.inr (Or.inl ⟨rfl, rfl, rfl, rfl⟩)))))))))))))))))))))⟩
theorem RgIs.c23 {n ah al bh bl ch cl sh sl th tl uh ul ph pl qh ql eh el fh fl gh gl ih il jh jl xh xl yh yl vh vl : Int} : RgIs n ah al bh bl ch cl sh sl th tl uh ul ph pl qh ql eh el fh fl gh gl ih il jh jl xh xl yh yl vh vl (.int .u8 5) (.agg #[.int .i64 n, .int .u64 xh, .int .u64 xl]) (.agg #[.int .i64 n, .int .u64 vh, .int .u64 vl]) (.agg #[.int .i64 n, .int .u64 sh, .int .u64 sl]) := by
  exact ⟨Or.inr (Or.inr (Or.inr (Or.inr (Or.inr (Or.inr (Or.inr (Or.inr (Or.inr (Or.inr (Or.inr (Or.inr (Or.inr (Or.inr (Or.inr (Or.inr (Or.inr (Or.inr (Or.inr (Or.inr (Or.inr (Or.inr (⟨rfl, rfl, rfl, rfl⟩))))))))))))))))))))))⟩
def RgS (w W : World) (A B C S Z U : Nat) (n ah al bh bl ch cl sh sl uh ul : Int) : Prop := Below w.heap.size w W ∧ O3 W A B C n ah al n bh bl n ch cl ∧ N3 W S n sh sl ∧ N3 W Z n 0 0 ∧ N3 W U n uh ul
theorem RgS.next {w W W' : World} {A B C S Z U : Nat} {n ah al bh bl ch cl sh sl uh ul : Int} (h : RgS w W A B C S Z U n ah al bh bl ch cl sh sl uh ul) (hb : Below W.heap.size W W') : RgS w W' A B C S Z U n ah al bh bl ch cl sh sl uh ul :=
  ⟨h.1.trans (hb.mono h.1.size), h.2.1.keep hb, h.2.2.1.below hb, h.2.2.2.1.below hb, h.2.2.2.2.below hb⟩
theorem O3.low {W : World} {A B C : Nat} {n ah al m bh bl k ch cl : Int} (h : O3 W A B C n ah al m bh bl k ch cl) (a : Array Value) (t : TypeId) : O3 (W.alloc (.cells a t)) A B C n ah al m bh bl k ch cl := h.keep ((Below.refl _ W).alloc (Nat.le_refl _) _)
theorem N3.low {W : World} {b : Nat} {n h l : Int} (k : N3 W b n h l) (a : Array Value) (t : TypeId) : N3 (W.alloc (.cells a t)) b n h l := k.below ((Below.refl _ W).alloc (Nat.le_refl _) _)

set_option maxRecDepth 100000 in
set_option maxHeartbeats 8000000 in
theorem rg_walk (x0 x1 y0 y1 z0 z1 n ah al bh bl ch cl sh sl th tl uh ul ph pl qh ql eh el fh fl gh gl ih il jh jl xh xl yh yl vh vl : Int) (w : World) (ht : w.cell? ⟨3, 15, none⟩ = some (.int .u8 4))
    (HN : ∀ W, Calls Tryd.prog 6 #[.agg #[.int .i64 n, .int .u64 x0, .int .u64 x1, .int .u64 y0, .int .u64 y1, .int .u64 z0, .int .u64 z1]] W fun e w' => e = .returned (.tuple #[(.agg #[.int .i64 n, .int .u64 ah, .int .u64 al]), (.agg #[.int .i64 n, .int .u64 bh, .int .u64 bl]), (.agg #[.int .i64 n, .int .u64 ch, .int .u64 cl]), .bool true]) ∧ Below W.heap.size W w')
    (HD0 : ∀ {op x y r}, RgIs n ah al bh bl ch cl sh sl th tl uh ul ph pl qh ql eh el fh fl gh gl ih il jh jl xh xl yh yl vh vl op x y r → ∀ W, Calls Tryd.prog 8 #[op, x, y] W fun e w' => e = .returned r ∧ Below W.heap.size W w') :
    Calls Tryd.prog 3 #[.agg #[.int .i64 n, .int .u64 x0, .int .u64 x1, .int .u64 y0, .int .u64 y1, .int .u64 z0, .int .u64 z1]] w fun e w' => e = .returned (.bool true) ∧ Below w.heap.size w w' := by
  have hG : 3 < w.heap.size := World.block_lt_of_cell? w _ ht
  have HT := hide ht
  have HN' := hide HN
  have HD : Hid (∀ {op x y r}, RgIs n ah al bh bl ch cl sh sl th tl uh ul ph pl qh ql eh el fh fl gh gl ih il jh jl xh xl yh yl vh vl op x y r → ∀ W, _) := fun h W => HD0 h W
  clear HN HD0 ht
  go_enter Tryd.func3, Tryd.ntmps3
  go_wp2_with fail
  refine (HN'.out _).mono ?_
  rintro e' w1 ⟨rfl, hb1⟩
  have B1 : Hid (Below w.heap.size w w1) := ((Below.refl _ w).alloc (Nat.le_refl _) _).trans (hb1.mono (by simp))
  clear hb1
  have b13 : Hid (Below w1.heap.size w1 (((w1.alloc (.cells #[.int .i64 n, .int .u64 ah, .int .u64 al] 27)).alloc (.cells #[.int .i64 n, .int .u64 bh, .int .u64 bl] 27)).alloc (.cells #[.int .i64 n, .int .u64 ch, .int .u64 cl] 27))) := (((Below.refl _ w1).alloc (Nat.le_refl _) _).alloc (by simp) _).alloc (by simp <;> omega) _
  have Q := hide (o3 w1 n ah al n bh bl n ch cl)
  go_wp2_with fail
  refine (alive_any _ (by rw [(B1.out.trans (b13.out.mono B1.out.size)).cell (p := ⟨3, 15, none⟩) hG]; exact HT.out)).mono ?_
  rintro e' w2 ⟨rfl, hb2⟩
  have B2 := hide (B1.out.trans ((b13.out.trans (hb2.mono b13.out.size)).mono B1.out.size))
  have Q2 := hide (Q.out.keep hb2)
  clear hb2 Q b13 B1
  obtain ⟨a0, a1, a2, _⟩ := blk3 Q2.out.a
  obtain ⟨b0, b1, b2, _⟩ := blk3 Q2.out.b
  go_wp2_with fail
  refine (HD.out RgIs.c1 _).mono ?_
  rintro e' w3 ⟨rfl, hb3⟩
  have B3 := hide ((B2.out.trans (hb3.mono B2.out.size)).alloc (Nat.le_trans B2.out.size hb3.size) (.cells #[.int .i64 n, .int .u64 sh, .int .u64 sl] 27))
  have Q3 := hide ((Q2.out.keep hb3).low #[.int .i64 n, .int .u64 sh, .int .u64 sl] 27)
  have S3 := hide (N3.new w3 n sh sl)
  clear hb3 Q2 B2 a0 a1 a2 b0 b1 b2
  obtain ⟨a0, a1, a2, _⟩ := blk3 Q3.out.a
  go_wp2_with fail
  refine (HD.out RgIs.c2 _).mono ?_
  rintro e' w4 ⟨rfl, hb4⟩
  have B4 := hide ((B3.out.trans (hb4.mono B3.out.size)).alloc (Nat.le_trans B3.out.size hb4.size) (.cells #[.int .i64 n, .int .u64 0, .int .u64 0] 27))
  have Q4 := hide ((Q3.out.keep hb4).low #[.int .i64 n, .int .u64 0, .int .u64 0] 27)
  have S4 := hide ((S3.out.below hb4).low #[.int .i64 n, .int .u64 0, .int .u64 0] 27)
  have Z4 := hide (N3.new w4 n 0 0)
  clear hb4 Q3 B3 S3 a0 a1 a2
  obtain ⟨a0, a1, a2, _⟩ := blk3 Q4.out.a
  go_wp2_with fail
  refine (HD.out RgIs.c3 _).mono ?_
  rintro e' w5 ⟨rfl, hb5⟩
  go_wp2_with fail
  refine (num_any n 1 _).mono ?_
  rintro e' w6 ⟨rfl, hb6⟩
  go_wp2_with fail
  refine (HD.out RgIs.c4 _).mono ?_
  rintro e' w7 ⟨rfl, hb7⟩
  have b57 : Below _ _ w7 := hb5.trans ((hb6.trans (hb7.mono hb6.size)).mono hb5.size)
  have R : Hid (RgS w (w7.alloc (.cells #[.int .i64 n, .int .u64 uh, .int .u64 ul] 27)) w1.heap.size (w1.heap.size + 1) (w1.heap.size + 1 + 1) w3.heap.size w4.heap.size w7.heap.size n ah al bh bl ch cl sh sl uh ul) :=
    ⟨(B4.out.trans (b57.mono B4.out.size)).alloc (Nat.le_trans B4.out.size b57.size) _, (Q4.out.keep b57).low _ _, (S4.out.below b57).low _ _, (Z4.out.below b57).low _ _, N3.new w7 n uh ul⟩
  clear b57 hb5 hb6 hb7 Q4 B4 S4 Z4 a0 a1 a2
  go_wp2_with fail
  obtain ⟨X, f, hX, hS, hcov⟩ := class_of (fun w' => RgS w w' w1.heap.size (w1.heap.size + 1) (w1.heap.size + 1 + 1) w3.heap.size w4.heap.size w7.heap.size n ah al bh bl ch cl sh sl uh ul) _ (RgS.next R.out (Below.refl _ _).drew)

  have ka0 := fun x => (blk3 (hS x).2.1.a).1
  have ka1 := fun x => (blk3 (hS x).2.1.a).2.1
  have ka2 := fun x => (blk3 (hS x).2.1.a).2.2.1
  have kb0 := fun x => (blk3 (hS x).2.1.b).1
  have kb1 := fun x => (blk3 (hS x).2.1.b).2.1
  have kb2 := fun x => (blk3 (hS x).2.1.b).2.2.1
  have kc0 := fun x => (blk3 (hS x).2.1.c).1
  have kc1 := fun x => (blk3 (hS x).2.1.c).2.1
  have kc2 := fun x => (blk3 (hS x).2.1.c).2.2.1
  have ks0 := fun x => (blk3 (hS x).2.2.1).1
  have ks1 := fun x => (blk3 (hS x).2.2.1).2.1
  have ks2 := fun x => (blk3 (hS x).2.2.1).2.2.1
  have kz0 := fun x => (blk3 (hS x).2.2.2.1).1
  have kz1 := fun x => (blk3 (hS x).2.2.2.1).2.1
  have kz2 := fun x => (blk3 (hS x).2.2.2.1).2.2.1
  have ku0 := fun x => (blk3 (hS x).2.2.2.2).1
  have ku1 := fun x => (blk3 (hS x).2.2.2.2).2.1
  have ku2 := fun x => (blk3 (hS x).2.2.2.2).2.2.1
  have HS := hide hS; have HC := hide hcov
  have H0 : Hid _ := hide (HC.out _ (RgS.next R.out (Below.refl _ _).drew))
  clear hS hcov
  refine wp_region_classL f (by kernel_rfl) (by kernel_rfl) (by kernel_rfl) H0.out ?_
  simp only [List.append]
  repeat (first
    | go_big_quiet_skip
    | (go_big_quiet_want; go_big_quiet_op; first
        | go_big_quiet_on
        | (apply Exists.intro
           refine ⟨fun _ => ?_, ?_⟩
           · (first
              | (go_at_call 9; refine (num_any _ _ _).mono ?_; rintro e' wn ⟨rfl, hb⟩; exact ⟨rfl, HC.out _ (RgS.next (HS.out _) hb)⟩)
              | (go_at_call 8; refine' (HD.out _ _).mono _; rotate_left; (first | exact RgIs.c5 | exact RgIs.c6 | exact RgIs.c7 | exact RgIs.c8 | exact RgIs.c9 | exact RgIs.c10 | exact RgIs.c11 | exact RgIs.c12 | exact RgIs.c13 | exact RgIs.c14 | exact RgIs.c15 | exact RgIs.c16 | exact RgIs.c17 | exact RgIs.c18 | exact RgIs.c19 | exact RgIs.c20 | exact RgIs.c21 | exact RgIs.c22 | exact RgIs.c23); rintro e' wn ⟨rfl, hb⟩; exact ⟨rfl, HC.out _ (RgS.next (HS.out _) hb)⟩))
           go_big_quiet_on)))
  refine wpQuiet_nil ?_
  rintro _ ⟨x, rfl⟩
  go_wp2
  go_ret
  exact ⟨rfl, (HS.out x).1⟩
end Go.Proofs.YtbaihikhmmhnpaaDoor
