/- Pieces of the proof: BgA. -/
import Derived.Test.YtclhmggnkhnnlaaGreatDoorM25
/- Apart of a Book of any kinds. -/
namespace Go.Proofs.YtclhmggnkhnnlaaGreatDoor
open Go.RowKit

structure BookOk (K : Nat → Kd) (live : Nat → Bool) (w0 : World) (B : Nat) : Prop where
  f1 : FillOk (K 1) (live 1) w0 B 35 1
  f2 : FillOk (K 2) (live 2) w0 B 36 2
  f3 : FillOk (K 3) (live 3) w0 B 37 3
  f4 : FillOk (K 4) (live 4) w0 B 38 4
  f5 : FillOk (K 5) (live 5) w0 B 39 5
  f6 : FillOk (K 6) (live 6) w0 B 40 6
  f7 : FillOk (K 7) (live 7) w0 B 41 7
  f8 : FillOk (K 8) (live 8) w0 B 42 8
  f9 : FillOk (K 9) (live 9) w0 B 43 9
  f10 : FillOk (K 10) (live 10) w0 B 44 10
  f11 : FillOk (K 11) (live 11) w0 B 45 11
  f12 : FillOk (K 12) (live 12) w0 B 46 12
  f13 : FillOk (K 13) (live 13) w0 B 47 13
  f14 : FillOk (K 14) (live 14) w0 B 48 14
  f15 : FillOk (K 15) (live 15) w0 B 49 15
  f16 : FillOk (K 16) (live 16) w0 B 50 16
  f17 : FillOk (K 17) (live 17) w0 B 51 17
  f18 : FillOk (K 18) (live 18) w0 B 52 18
  f19 : FillOk (K 19) (live 19) w0 B 53 19
  f20 : FillOk (K 20) (live 20) w0 B 54 20
  f21 : FillOk (K 21) (live 21) w0 B 55 21
  f22 : FillOk (K 22) (live 22) w0 B 56 22
  f23 : FillOk (K 23) (live 23) w0 B 57 23
  f24 : FillOk (K 24) (live 24) w0 B 58 24
  f25 : FillOk (K 25) (live 25) w0 B 59 25
  f26 : FillOk (K 26) (live 26) w0 B 60 26
  f27 : FillOk (K 27) (live 27) w0 B 61 27
  f28 : FillOk (K 28) (live 28) w0 B 62 28
  f29 : FillOk (K 29) (live 29) w0 B 63 29
  f30 : FillOk (K 30) (live 30) w0 B 64 30
  g1 : GrowOk (K 1) (live 1) w0 B 65 1
  g2 : GrowOk (K 2) (live 2) w0 B 66 2
  g3 : GrowOk (K 3) (live 3) w0 B 67 3
  g4 : GrowOk (K 4) (live 4) w0 B 68 4
  g5 : GrowOk (K 5) (live 5) w0 B 69 5
  g6 : GrowOk (K 6) (live 6) w0 B 70 6
  g7 : GrowOk (K 7) (live 7) w0 B 71 7
  g8 : GrowOk (K 8) (live 8) w0 B 72 8
  g9 : GrowOk (K 9) (live 9) w0 B 73 9
  g10 : GrowOk (K 10) (live 10) w0 B 74 10
  g11 : GrowOk (K 11) (live 11) w0 B 75 11
  g12 : GrowOk (K 12) (live 12) w0 B 76 12
  g13 : GrowOk (K 13) (live 13) w0 B 77 13
  g14 : GrowOk (K 14) (live 14) w0 B 78 14
  g15 : GrowOk (K 15) (live 15) w0 B 79 15
  g16 : GrowOk (K 16) (live 16) w0 B 80 16
  g17 : GrowOk (K 17) (live 17) w0 B 81 17
  g18 : GrowOk (K 18) (live 18) w0 B 82 18
  g19 : GrowOk (K 19) (live 19) w0 B 83 19
  g20 : GrowOk (K 20) (live 20) w0 B 84 20
  g21 : GrowOk (K 21) (live 21) w0 B 85 21
  g22 : GrowOk (K 22) (live 22) w0 B 86 22
  g23 : GrowOk (K 23) (live 23) w0 B 87 23
  g24 : GrowOk (K 24) (live 24) w0 B 88 24
  g25 : GrowOk (K 25) (live 25) w0 B 89 25
  g26 : GrowOk (K 26) (live 26) w0 B 90 26
  g27 : GrowOk (K 27) (live 27) w0 B 91 27
  g28 : GrowOk (K 28) (live 28) w0 B 92 28
  g29 : GrowOk (K 29) (live 29) w0 B 93 29
  g30 : GrowOk (K 30) (live 30) w0 B 94 30
  l1 : LookOk (K 1) (live 1) w0 B 95 1
  l2 : LookOk (K 2) (live 2) w0 B 96 2
  l3 : LookOk (K 3) (live 3) w0 B 97 3
  l4 : LookOk (K 4) (live 4) w0 B 98 4
  l5 : LookOk (K 5) (live 5) w0 B 99 5
  l6 : LookOk (K 6) (live 6) w0 B 100 6
  l7 : LookOk (K 7) (live 7) w0 B 101 7
  l8 : LookOk (K 8) (live 8) w0 B 102 8
  l9 : LookOk (K 9) (live 9) w0 B 103 9
  l10 : LookOk (K 10) (live 10) w0 B 104 10
  l11 : LookOk (K 11) (live 11) w0 B 105 11
  l12 : LookOk (K 12) (live 12) w0 B 106 12
  l13 : LookOk (K 13) (live 13) w0 B 107 13
  l14 : LookOk (K 14) (live 14) w0 B 108 14
  l15 : LookOk (K 15) (live 15) w0 B 109 15
  l16 : LookOk (K 16) (live 16) w0 B 110 16
  l17 : LookOk (K 17) (live 17) w0 B 111 17
  l18 : LookOk (K 18) (live 18) w0 B 112 18
  l19 : LookOk (K 19) (live 19) w0 B 113 19
  l20 : LookOk (K 20) (live 20) w0 B 114 20
  l21 : LookOk (K 21) (live 21) w0 B 115 21
  l22 : LookOk (K 22) (live 22) w0 B 116 22
  l23 : LookOk (K 23) (live 23) w0 B 117 23
  l24 : LookOk (K 24) (live 24) w0 B 118 24
  l25 : LookOk (K 25) (live 25) w0 B 119 25
  l26 : LookOk (K 26) (live 26) w0 B 120 26
  l27 : LookOk (K 27) (live 27) w0 B 121 27
  l28 : LookOk (K 28) (live 28) w0 B 122 28
  l29 : LookOk (K 29) (live 29) w0 B 123 29
  l30 : LookOk (K 30) (live 30) w0 B 124 30
set_option maxRecDepth 100000 in
set_option maxHeartbeats 8000000 in
theorem apartG {K : Nat → Kd} {live : Nat → Bool} {w0 W : World} {B g : Nat} {v : Nat → Value} {hs : Nat → List Hc} (O : BookOk K live w0 B) (S : StB K live g v hs) (I : FillI K w0 W B g v hs 1) : Calls Tryz.prog 15 #[.pointer (some ⟨g, 0, none⟩)] W fun e W' => e = .returned (.bool true) ∧ Below B w0 W' := by
  have HO := hide O
  have HS := hide S
  have HI := hide I
  clear O S I
  go_enter Tryz.func15, Tryz.ntmps15
  go_wp2_with fail
  refine (HI.out.call HS.out ⟨by decide, by decide⟩ HO.out.f1).mono ?_
  rintro e wf1 ⟨rfl, hn⟩
  replace HI := hide hn
  clear hn
  go_wp2_with fail
  refine (HI.out.call HS.out ⟨by decide, by decide⟩ HO.out.f2).mono ?_
  rintro e wf2 ⟨rfl, hn⟩
  replace HI := hide hn
  clear hn
  go_wp2_with fail
  refine (HI.out.call HS.out ⟨by decide, by decide⟩ HO.out.f3).mono ?_
  rintro e wf3 ⟨rfl, hn⟩
  replace HI := hide hn
  clear hn
  go_wp2_with fail
  refine (HI.out.call HS.out ⟨by decide, by decide⟩ HO.out.f4).mono ?_
  rintro e wf4 ⟨rfl, hn⟩
  replace HI := hide hn
  clear hn
  go_wp2_with fail
  refine (HI.out.call HS.out ⟨by decide, by decide⟩ HO.out.f5).mono ?_
  rintro e wf5 ⟨rfl, hn⟩
  replace HI := hide hn
  clear hn
  go_wp2_with fail
  refine (HI.out.call HS.out ⟨by decide, by decide⟩ HO.out.f6).mono ?_
  rintro e wf6 ⟨rfl, hn⟩
  replace HI := hide hn
  clear hn
  go_wp2_with fail
  refine (HI.out.call HS.out ⟨by decide, by decide⟩ HO.out.f7).mono ?_
  rintro e wf7 ⟨rfl, hn⟩
  replace HI := hide hn
  clear hn
  go_wp2_with fail
  refine (HI.out.call HS.out ⟨by decide, by decide⟩ HO.out.f8).mono ?_
  rintro e wf8 ⟨rfl, hn⟩
  replace HI := hide hn
  clear hn
  go_wp2_with fail
  refine (HI.out.call HS.out ⟨by decide, by decide⟩ HO.out.f9).mono ?_
  rintro e wf9 ⟨rfl, hn⟩
  replace HI := hide hn
  clear hn
  go_wp2_with fail
  refine (HI.out.call HS.out ⟨by decide, by decide⟩ HO.out.f10).mono ?_
  rintro e wf10 ⟨rfl, hn⟩
  replace HI := hide hn
  clear hn
  go_wp2_with fail
  refine (HI.out.call HS.out ⟨by decide, by decide⟩ HO.out.f11).mono ?_
  rintro e wf11 ⟨rfl, hn⟩
  replace HI := hide hn
  clear hn
  go_wp2_with fail
  refine (HI.out.call HS.out ⟨by decide, by decide⟩ HO.out.f12).mono ?_
  rintro e wf12 ⟨rfl, hn⟩
  replace HI := hide hn
  clear hn
  go_wp2_with fail
  refine (HI.out.call HS.out ⟨by decide, by decide⟩ HO.out.f13).mono ?_
  rintro e wf13 ⟨rfl, hn⟩
  replace HI := hide hn
  clear hn
  go_wp2_with fail
  refine (HI.out.call HS.out ⟨by decide, by decide⟩ HO.out.f14).mono ?_
  rintro e wf14 ⟨rfl, hn⟩
  replace HI := hide hn
  clear hn
  go_wp2_with fail
  refine (HI.out.call HS.out ⟨by decide, by decide⟩ HO.out.f15).mono ?_
  rintro e wf15 ⟨rfl, hn⟩
  replace HI := hide hn
  clear hn
  go_wp2_with fail
  refine (HI.out.call HS.out ⟨by decide, by decide⟩ HO.out.f16).mono ?_
  rintro e wf16 ⟨rfl, hn⟩
  replace HI := hide hn
  clear hn
  go_wp2_with fail
  refine (HI.out.call HS.out ⟨by decide, by decide⟩ HO.out.f17).mono ?_
  rintro e wf17 ⟨rfl, hn⟩
  replace HI := hide hn
  clear hn
  go_wp2_with fail
  refine (HI.out.call HS.out ⟨by decide, by decide⟩ HO.out.f18).mono ?_
  rintro e wf18 ⟨rfl, hn⟩
  replace HI := hide hn
  clear hn
  go_wp2_with fail
  refine (HI.out.call HS.out ⟨by decide, by decide⟩ HO.out.f19).mono ?_
  rintro e wf19 ⟨rfl, hn⟩
  replace HI := hide hn
  clear hn
  go_wp2_with fail
  refine (HI.out.call HS.out ⟨by decide, by decide⟩ HO.out.f20).mono ?_
  rintro e wf20 ⟨rfl, hn⟩
  replace HI := hide hn
  clear hn
  go_wp2_with fail
  refine (HI.out.call HS.out ⟨by decide, by decide⟩ HO.out.f21).mono ?_
  rintro e wf21 ⟨rfl, hn⟩
  replace HI := hide hn
  clear hn
  go_wp2_with fail
  refine (HI.out.call HS.out ⟨by decide, by decide⟩ HO.out.f22).mono ?_
  rintro e wf22 ⟨rfl, hn⟩
  replace HI := hide hn
  clear hn
  go_wp2_with fail
  refine (HI.out.call HS.out ⟨by decide, by decide⟩ HO.out.f23).mono ?_
  rintro e wf23 ⟨rfl, hn⟩
  replace HI := hide hn
  clear hn
  go_wp2_with fail
  refine (HI.out.call HS.out ⟨by decide, by decide⟩ HO.out.f24).mono ?_
  rintro e wf24 ⟨rfl, hn⟩
  replace HI := hide hn
  clear hn
  go_wp2_with fail
  refine (HI.out.call HS.out ⟨by decide, by decide⟩ HO.out.f25).mono ?_
  rintro e wf25 ⟨rfl, hn⟩
  replace HI := hide hn
  clear hn
  go_wp2_with fail
  refine (HI.out.call HS.out ⟨by decide, by decide⟩ HO.out.f26).mono ?_
  rintro e wf26 ⟨rfl, hn⟩
  replace HI := hide hn
  clear hn
  go_wp2_with fail
  refine (HI.out.call HS.out ⟨by decide, by decide⟩ HO.out.f27).mono ?_
  rintro e wf27 ⟨rfl, hn⟩
  replace HI := hide hn
  clear hn
  go_wp2_with fail
  refine (HI.out.call HS.out ⟨by decide, by decide⟩ HO.out.f28).mono ?_
  rintro e wf28 ⟨rfl, hn⟩
  replace HI := hide hn
  clear hn
  go_wp2_with fail
  refine (HI.out.call HS.out ⟨by decide, by decide⟩ HO.out.f29).mono ?_
  rintro e wf29 ⟨rfl, hn⟩
  replace HI := hide hn
  clear hn
  go_wp2_with fail
  refine (HI.out.call HS.out ⟨by decide, by decide⟩ HO.out.f30).mono ?_
  rintro e wf30 ⟨rfl, hn⟩
  replace HI := hide hn
  clear hn
  replace HI := hide (HI.out.grow HS.out)
  go_wp2_with fail
  refine (HI.out.call HS.out ⟨by decide, by decide⟩ HO.out.g1).mono ?_
  rintro e wg1 ⟨rfl, hn⟩
  replace HI := hide hn
  clear hn
  go_wp2_with fail
  refine (HI.out.call HS.out ⟨by decide, by decide⟩ HO.out.g2).mono ?_
  rintro e wg2 ⟨rfl, hn⟩
  replace HI := hide hn
  clear hn
  go_wp2_with fail
  refine (HI.out.call HS.out ⟨by decide, by decide⟩ HO.out.g3).mono ?_
  rintro e wg3 ⟨rfl, hn⟩
  replace HI := hide hn
  clear hn
  go_wp2_with fail
  refine (HI.out.call HS.out ⟨by decide, by decide⟩ HO.out.g4).mono ?_
  rintro e wg4 ⟨rfl, hn⟩
  replace HI := hide hn
  clear hn
  go_wp2_with fail
  refine (HI.out.call HS.out ⟨by decide, by decide⟩ HO.out.g5).mono ?_
  rintro e wg5 ⟨rfl, hn⟩
  replace HI := hide hn
  clear hn
  go_wp2_with fail
  refine (HI.out.call HS.out ⟨by decide, by decide⟩ HO.out.g6).mono ?_
  rintro e wg6 ⟨rfl, hn⟩
  replace HI := hide hn
  clear hn
  go_wp2_with fail
  refine (HI.out.call HS.out ⟨by decide, by decide⟩ HO.out.g7).mono ?_
  rintro e wg7 ⟨rfl, hn⟩
  replace HI := hide hn
  clear hn
  go_wp2_with fail
  refine (HI.out.call HS.out ⟨by decide, by decide⟩ HO.out.g8).mono ?_
  rintro e wg8 ⟨rfl, hn⟩
  replace HI := hide hn
  clear hn
  go_wp2_with fail
  refine (HI.out.call HS.out ⟨by decide, by decide⟩ HO.out.g9).mono ?_
  rintro e wg9 ⟨rfl, hn⟩
  replace HI := hide hn
  clear hn
  go_wp2_with fail
  refine (HI.out.call HS.out ⟨by decide, by decide⟩ HO.out.g10).mono ?_
  rintro e wg10 ⟨rfl, hn⟩
  replace HI := hide hn
  clear hn
  go_wp2_with fail
  refine (HI.out.call HS.out ⟨by decide, by decide⟩ HO.out.g11).mono ?_
  rintro e wg11 ⟨rfl, hn⟩
  replace HI := hide hn
  clear hn
  go_wp2_with fail
  refine (HI.out.call HS.out ⟨by decide, by decide⟩ HO.out.g12).mono ?_
  rintro e wg12 ⟨rfl, hn⟩
  replace HI := hide hn
  clear hn
  go_wp2_with fail
  refine (HI.out.call HS.out ⟨by decide, by decide⟩ HO.out.g13).mono ?_
  rintro e wg13 ⟨rfl, hn⟩
  replace HI := hide hn
  clear hn
  go_wp2_with fail
  refine (HI.out.call HS.out ⟨by decide, by decide⟩ HO.out.g14).mono ?_
  rintro e wg14 ⟨rfl, hn⟩
  replace HI := hide hn
  clear hn
  go_wp2_with fail
  refine (HI.out.call HS.out ⟨by decide, by decide⟩ HO.out.g15).mono ?_
  rintro e wg15 ⟨rfl, hn⟩
  replace HI := hide hn
  clear hn
  go_wp2_with fail
  refine (HI.out.call HS.out ⟨by decide, by decide⟩ HO.out.g16).mono ?_
  rintro e wg16 ⟨rfl, hn⟩
  replace HI := hide hn
  clear hn
  go_wp2_with fail
  refine (HI.out.call HS.out ⟨by decide, by decide⟩ HO.out.g17).mono ?_
  rintro e wg17 ⟨rfl, hn⟩
  replace HI := hide hn
  clear hn
  go_wp2_with fail
  refine (HI.out.call HS.out ⟨by decide, by decide⟩ HO.out.g18).mono ?_
  rintro e wg18 ⟨rfl, hn⟩
  replace HI := hide hn
  clear hn
  go_wp2_with fail
  refine (HI.out.call HS.out ⟨by decide, by decide⟩ HO.out.g19).mono ?_
  rintro e wg19 ⟨rfl, hn⟩
  replace HI := hide hn
  clear hn
  go_wp2_with fail
  refine (HI.out.call HS.out ⟨by decide, by decide⟩ HO.out.g20).mono ?_
  rintro e wg20 ⟨rfl, hn⟩
  replace HI := hide hn
  clear hn
  go_wp2_with fail
  refine (HI.out.call HS.out ⟨by decide, by decide⟩ HO.out.g21).mono ?_
  rintro e wg21 ⟨rfl, hn⟩
  replace HI := hide hn
  clear hn
  go_wp2_with fail
  refine (HI.out.call HS.out ⟨by decide, by decide⟩ HO.out.g22).mono ?_
  rintro e wg22 ⟨rfl, hn⟩
  replace HI := hide hn
  clear hn
  go_wp2_with fail
  refine (HI.out.call HS.out ⟨by decide, by decide⟩ HO.out.g23).mono ?_
  rintro e wg23 ⟨rfl, hn⟩
  replace HI := hide hn
  clear hn
  go_wp2_with fail
  refine (HI.out.call HS.out ⟨by decide, by decide⟩ HO.out.g24).mono ?_
  rintro e wg24 ⟨rfl, hn⟩
  replace HI := hide hn
  clear hn
  go_wp2_with fail
  refine (HI.out.call HS.out ⟨by decide, by decide⟩ HO.out.g25).mono ?_
  rintro e wg25 ⟨rfl, hn⟩
  replace HI := hide hn
  clear hn
  go_wp2_with fail
  refine (HI.out.call HS.out ⟨by decide, by decide⟩ HO.out.g26).mono ?_
  rintro e wg26 ⟨rfl, hn⟩
  replace HI := hide hn
  clear hn
  go_wp2_with fail
  refine (HI.out.call HS.out ⟨by decide, by decide⟩ HO.out.g27).mono ?_
  rintro e wg27 ⟨rfl, hn⟩
  replace HI := hide hn
  clear hn
  go_wp2_with fail
  refine (HI.out.call HS.out ⟨by decide, by decide⟩ HO.out.g28).mono ?_
  rintro e wg28 ⟨rfl, hn⟩
  replace HI := hide hn
  clear hn
  go_wp2_with fail
  refine (HI.out.call HS.out ⟨by decide, by decide⟩ HO.out.g29).mono ?_
  rintro e wg29 ⟨rfl, hn⟩
  replace HI := hide hn
  clear hn
  go_wp2_with fail
  refine (HI.out.call HS.out ⟨by decide, by decide⟩ HO.out.g30).mono ?_
  rintro e wg30 ⟨rfl, hn⟩
  replace HI := hide hn
  clear hn
  go_wp2_with fail
  refine (HI.out.look HS.out ⟨by decide, by decide⟩ HO.out.l1).mono ?_
  rintro e wl1 ⟨rfl, hn⟩
  replace HI := hide hn
  clear hn
  go_wp2_with fail
  refine (HI.out.look HS.out ⟨by decide, by decide⟩ HO.out.l2).mono ?_
  rintro e wl2 ⟨rfl, hn⟩
  replace HI := hide hn
  clear hn
  go_wp2_with fail
  refine (HI.out.look HS.out ⟨by decide, by decide⟩ HO.out.l3).mono ?_
  rintro e wl3 ⟨rfl, hn⟩
  replace HI := hide hn
  clear hn
  go_wp2_with fail
  refine (HI.out.look HS.out ⟨by decide, by decide⟩ HO.out.l4).mono ?_
  rintro e wl4 ⟨rfl, hn⟩
  replace HI := hide hn
  clear hn
  go_wp2_with fail
  refine (HI.out.look HS.out ⟨by decide, by decide⟩ HO.out.l5).mono ?_
  rintro e wl5 ⟨rfl, hn⟩
  replace HI := hide hn
  clear hn
  go_wp2_with fail
  refine (HI.out.look HS.out ⟨by decide, by decide⟩ HO.out.l6).mono ?_
  rintro e wl6 ⟨rfl, hn⟩
  replace HI := hide hn
  clear hn
  go_wp2_with fail
  refine (HI.out.look HS.out ⟨by decide, by decide⟩ HO.out.l7).mono ?_
  rintro e wl7 ⟨rfl, hn⟩
  replace HI := hide hn
  clear hn
  go_wp2_with fail
  refine (HI.out.look HS.out ⟨by decide, by decide⟩ HO.out.l8).mono ?_
  rintro e wl8 ⟨rfl, hn⟩
  replace HI := hide hn
  clear hn
  go_wp2_with fail
  refine (HI.out.look HS.out ⟨by decide, by decide⟩ HO.out.l9).mono ?_
  rintro e wl9 ⟨rfl, hn⟩
  replace HI := hide hn
  clear hn
  go_wp2_with fail
  refine (HI.out.look HS.out ⟨by decide, by decide⟩ HO.out.l10).mono ?_
  rintro e wl10 ⟨rfl, hn⟩
  replace HI := hide hn
  clear hn
  go_wp2_with fail
  refine (HI.out.look HS.out ⟨by decide, by decide⟩ HO.out.l11).mono ?_
  rintro e wl11 ⟨rfl, hn⟩
  replace HI := hide hn
  clear hn
  go_wp2_with fail
  refine (HI.out.look HS.out ⟨by decide, by decide⟩ HO.out.l12).mono ?_
  rintro e wl12 ⟨rfl, hn⟩
  replace HI := hide hn
  clear hn
  go_wp2_with fail
  refine (HI.out.look HS.out ⟨by decide, by decide⟩ HO.out.l13).mono ?_
  rintro e wl13 ⟨rfl, hn⟩
  replace HI := hide hn
  clear hn
  go_wp2_with fail
  refine (HI.out.look HS.out ⟨by decide, by decide⟩ HO.out.l14).mono ?_
  rintro e wl14 ⟨rfl, hn⟩
  replace HI := hide hn
  clear hn
  go_wp2_with fail
  refine (HI.out.look HS.out ⟨by decide, by decide⟩ HO.out.l15).mono ?_
  rintro e wl15 ⟨rfl, hn⟩
  replace HI := hide hn
  clear hn
  go_wp2_with fail
  refine (HI.out.look HS.out ⟨by decide, by decide⟩ HO.out.l16).mono ?_
  rintro e wl16 ⟨rfl, hn⟩
  replace HI := hide hn
  clear hn
  go_wp2_with fail
  refine (HI.out.look HS.out ⟨by decide, by decide⟩ HO.out.l17).mono ?_
  rintro e wl17 ⟨rfl, hn⟩
  replace HI := hide hn
  clear hn
  go_wp2_with fail
  refine (HI.out.look HS.out ⟨by decide, by decide⟩ HO.out.l18).mono ?_
  rintro e wl18 ⟨rfl, hn⟩
  replace HI := hide hn
  clear hn
  go_wp2_with fail
  refine (HI.out.look HS.out ⟨by decide, by decide⟩ HO.out.l19).mono ?_
  rintro e wl19 ⟨rfl, hn⟩
  replace HI := hide hn
  clear hn
  go_wp2_with fail
  refine (HI.out.look HS.out ⟨by decide, by decide⟩ HO.out.l20).mono ?_
  rintro e wl20 ⟨rfl, hn⟩
  replace HI := hide hn
  clear hn
  go_wp2_with fail
  refine (HI.out.look HS.out ⟨by decide, by decide⟩ HO.out.l21).mono ?_
  rintro e wl21 ⟨rfl, hn⟩
  replace HI := hide hn
  clear hn
  go_wp2_with fail
  refine (HI.out.look HS.out ⟨by decide, by decide⟩ HO.out.l22).mono ?_
  rintro e wl22 ⟨rfl, hn⟩
  replace HI := hide hn
  clear hn
  go_wp2_with fail
  refine (HI.out.look HS.out ⟨by decide, by decide⟩ HO.out.l23).mono ?_
  rintro e wl23 ⟨rfl, hn⟩
  replace HI := hide hn
  clear hn
  go_wp2_with fail
  refine (HI.out.look HS.out ⟨by decide, by decide⟩ HO.out.l24).mono ?_
  rintro e wl24 ⟨rfl, hn⟩
  replace HI := hide hn
  clear hn
  go_wp2_with fail
  refine (HI.out.look HS.out ⟨by decide, by decide⟩ HO.out.l25).mono ?_
  rintro e wl25 ⟨rfl, hn⟩
  replace HI := hide hn
  clear hn
  go_wp2_with fail
  refine (HI.out.look HS.out ⟨by decide, by decide⟩ HO.out.l26).mono ?_
  rintro e wl26 ⟨rfl, hn⟩
  replace HI := hide hn
  clear hn
  go_wp2_with fail
  refine (HI.out.look HS.out ⟨by decide, by decide⟩ HO.out.l27).mono ?_
  rintro e wl27 ⟨rfl, hn⟩
  replace HI := hide hn
  clear hn
  go_wp2_with fail
  refine (HI.out.look HS.out ⟨by decide, by decide⟩ HO.out.l28).mono ?_
  rintro e wl28 ⟨rfl, hn⟩
  replace HI := hide hn
  clear hn
  go_wp2_with fail
  refine (HI.out.look HS.out ⟨by decide, by decide⟩ HO.out.l29).mono ?_
  rintro e wl29 ⟨rfl, hn⟩
  replace HI := hide hn
  clear hn
  go_wp2_with fail
  refine (HI.out.look HS.out ⟨by decide, by decide⟩ HO.out.l30).mono ?_
  rintro e wl30 ⟨rfl, hn⟩
  replace HI := hide hn
  clear hn
  go_wp2
  go_ret
  exact ⟨rfl, HI.out.bl⟩
end Go.Proofs.YtclhmggnkhnnlaaGreatDoor
