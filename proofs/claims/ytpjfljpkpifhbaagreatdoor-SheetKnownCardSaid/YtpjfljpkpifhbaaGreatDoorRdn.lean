/- The reader of package sheet: a further name. -/
import Derived.Test.YtpjfljpkpifhbaaGreatDoorRdp
set_option linter.unusedSimpArgs false
set_option linter.unusedVariables false
namespace Go.Proofs.YtpjfljpkpifhbaaGreatDoor
open Go Go.RowKit Go.Maps Go.WideMaps Hs

theorem some_ne_own {v : Value} {b : Nat} (h : v.ownBlock = none ∨ v.ownBlock ≠ some b) : some b ≠ v.ownBlock := by
  rcases h with h | h
  · rw [h]; simp
  · exact fun e => h e.symm

set_option maxRecDepth 100000 in
set_option maxHeartbeats 2000000 in
theorem rname_any (B0 B1 B2 Br Bm : Nat) (r : Rd) (s : ByteArray) (ws : List ByteArray) (w : World) (h : RdSt B0 B1 B2 Br Bm r (s :: ws) w) (hs : s.size ≤ 2000) (hl : r.pts.length < 2000) :
    Calls Tryz.prog 65 #[.pointer (some ⟨Br, 0, none⟩)] w fun e w' => e = .returned (.tuple #[]) ∧ RdB B0 B1 Br Bm ⟨r.iv, r.pts ++ [s], r.notes⟩ w' ∧ Kb B1 Br Bm w w' := by
  obtain ⟨i0, hi⟩ := info_of_underlying Tryz.underlying9
  have HI : Hid (i0.zero = some (.string ⟨#[]⟩) ∧ i0.size = 1 ∧ i0.bytes = 16) := by
    have h := strInfo
    rw [hi] at h
    simp at h
    exact h
  have hw := word_any B0 B1 B2 Br Bm r s ws w h
  have HW := Lib.hid hw
  have HH := Lib.hid h
  clear h hw
  go_enter Tryz.func65, Tryz.ntmps65
  go_wp2_with fail
  refine HW.out.mono ?_
  rintro e w1 ⟨rfl, hst, hg⟩
  have hc := cloneS_any s w1 hs
  have HC := Lib.hid hc
  have ST := Lib.hid hst
  have HG := Lib.hid hg
  clear hc hst hg HW
  go_wp2_with fail
  refine HC.out.mono ?_
  rintro e w2 ⟨rfl, hb⟩
  have hst2 := ST.out.below hb
  have hB2 : Hid (Kb B1 Br Bm w w2) := ((Kb.refl w).grown HG.out HH.out.b1 (fun k hk => by simp at hk; omega)).trans (Kb.of_below hb ST.out.b1)
  obtain ⟨pa, pc, na, nc, wa, wc, h1, h2, h3, h4, _, _⟩ := hst2.row
  have c1 := cellOf h1 1 _ rfl
  have c3 := cellOf h1 3 _ rfl
  have hplt : (r.pts.length : Int) < 2000 := by omega
  obtain ⟨w3, hrun, hix, hg3⟩ := (hst2.map.kept (w' := w2.drew) (below_grownBy ((Below.refl _ _).drew)) (by simp)).put s hs (by omega)
  have HIX := Lib.hid hix
  have HG3 := Lib.hid hg3
  have ST2 := Lib.hid hst2
  have H1 := Lib.hid h1
  have H2 := Lib.hid h2
  have H3 := Lib.hid h3
  have H4 := Lib.hid h4
  clear hix hg3 hst2 hb h1 h2 h3 h4 HC
  go_wp2_with fail
  go_region
  have hx1 : Br ≠ Bm := ST2.out.ne
  have hBr1 := ST2.out.r1
  have hBm1 := ST2.out.m1
  have d1 : w3.heap[Br]? = _ := (HG3.out.block Br (lt_of_block H1.out) (by simpa using hx1)).trans H1.out
  have hd : Below w2.heap.size w2 w2.drew := (Below.refl _ _).drew
  have o1 := (own_below H2.out hd).kept HG3.out (ownBlock_ne (own_below H2.out hd) hBm1)
  have o2 := (own_below H3.out hd).kept HG3.out (ownBlock_ne (own_below H3.out hd) hBm1)
  have hs3 := HG3.out.size
  have hb1 : B1 ≤ w2.heap.size := ST2.out.b1
  have hs3' : w2.heap.size ≤ w3.heap.size := hs3
  have e1 := cellOf d1 1 _ rfl
  have f1 := frozen_of_row _ Br 1 _ _ d1
  have D1 := Lib.hid d1
  have O2 := Lib.hid o2
  have hownA := o1.alloc (Obj.cells #[.string s] 9)
  have HB3 : Hid (Kb B1 Br Bm w w3) := hB2.out.trans ((Kb.of_below hd hb1).grown HG3.out hb1 (fun k hk => by simp at hk; omega))
  have hb0 : B0 ≤ B1 := by have := ST2.out.b0r; omega
  clear c1 c3 d1 o1 o2 hd hrun hs3
  go_wp2_with (first
    | (at_builtin; refine wpList_append_own _ rfl _ _ 22 rfl B1 9 i0 (.string ⟨#[]⟩) 1 16 Tryz.underlying22 hi HI.out.1 HI.out.2.1 HI.out.2.2 rfl (by decide) _ _ _ rfl hownA ⟨w3.heap.size, 0, none⟩ 1 1 [.string s] rfl rfl ?c1 ?c2 ?c3 ?c4 ?c5 ?_))
  case c1 =>
    intro i u hj
    match i, hj with
    | 0, hj => simp at hj; subst hj; simp [Addr.add]
  case c2 => intro u hu; simp at hu; subst hu; rfl
  case c3 => unfold maxLen; omega
  case c4 => omega
  case c5 => simp; omega
  intro v' w4 hown4 hgrow _
  obtain ⟨sa, sc, rfl⟩ := own_slice hown4
  have hne := ownBlock_ne hownA hBr1
  have D4 : Hid (w4.heap[Br]? = _) := (hgrow.block Br (by have := lt_of_block D1.out; simp; omega) (some_ne_own hne)).trans ((Below.heap_alloc w3 _ _ (lt_of_block D1.out)).trans D1.out)
  have g1 := cellOf D4.out 1 _ rfl
  have g1f := frozen_of_row _ Br 1 _ _ D4.out
  clear e1 f1
  go_wp2_with fail
  go_end0
  have hlen : (r.pts ++ [s]).length = r.pts.length + 1 := by simp
  have hnm := ownBlock_ne hownA hBm1
  have o2 := (O2.out.alloc (Obj.cells #[.string s] 9)).kept hgrow (own_apart (O2.out.alloc _) hownA (by decide))
  have hB4 : Kb B1 Br Bm w w4 := (HB3.out.alloc (by omega) (Obj.cells #[.string s] 9)).grown hgrow (by simp; omega) (fun k hk => .inl (hownA.lt k hk).1)
  have hs4 := hgrow.size
  refine ⟨rfl, ⟨⟨sa, sc, na, nc, .slice wa ws.length wc, by rw [hlen]; exact heap_setCell_same w4 Br 1 _ _ _ D4.out, by rw [hlen]; exact own_other (by simpa using hown4) _ hBr1 _, own_other o2 _ hBr1 _⟩, ?_, ST2.out.b0r, ST2.out.b0m, hBr1, hBm1, hx1, ?_, ?_⟩, hB4.setCell (.inr (.inl rfl)) _⟩
  · exact ((HIX.out.kept (World.grownBy_alloc w3 _ none) (by simp)).kept hgrow (some_ne_own hnm)).kept (grown_setAt w4 Br 1 _) (by simpa using fun e => hx1 e.symm)
  · simp at hs4 ⊢; omega
  · exact ⟨by simp; omega, ST2.out.small.2⟩
end Go.Proofs.YtpjfljpkpifhbaaGreatDoor
