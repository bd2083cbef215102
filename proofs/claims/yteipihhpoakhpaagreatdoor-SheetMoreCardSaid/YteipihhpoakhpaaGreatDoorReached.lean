/- SheetReached: the call returns true. Condition: the tables of Go's library are laid. -/
import Derived.Test.YteipihhpoakhpaaGreatDoorWith
import Derived.Test.YteipihhpoakhpaaGreatDoorSol
import Derived.IntWalk
set_option linter.unusedSimpArgs false
set_option linter.unusedVariables false
namespace Go.Proofs.YteipihhpoakhpaaGreatDoor
open Go Go.RowKit Hs Dc

theorem mod_nat (x n : Nat) : ((x : Int)).tmod (n : Int) = ((x % n : Nat) : Int) := by
  rw [Int.tmod_eq_emod_of_nonneg (by omega)]
  exact (Int.natCast_emod x n).symm
theorem keep6 {W w w' : World} {p1 p2 p3 p4 p5 p6 : Addr} {v1 v2 v3 v4 v5 v6 : Value}
    (h : w.cell? p1 = some v1 ∧ w.cell? p2 = some v2 ∧ w.cell? p3 = some v3 ∧ w.cell? p4 = some v4 ∧ w.cell? p5 = some v5 ∧ w.cell? p6 = some v6 ∧ Hid (Below W.heap.size W w)) (hb : Below w.heap.size w w') :
    w'.cell? p1 = some v1 ∧ w'.cell? p2 = some v2 ∧ w'.cell? p3 = some v3 ∧ w'.cell? p4 = some v4 ∧ w'.cell? p5 = some v5 ∧ w'.cell? p6 = some v6 ∧ Hid (Below W.heap.size W w') := by
  obtain ⟨c1, c2, c3, c4, c5, c6, c7⟩ := h
  have g : ∀ {p : Addr} {v : Value}, w.cell? p = some v → w'.cell? p = some v := fun {p v} h => (hb.cell (World.block_lt_of_cell? w p h)).trans h
  exact ⟨g c1, g c2, g c3, g c4, g c5, g c6, c7.out.trans (hb.mono c7.out.size)⟩

def num3 (p q r : Int) (k : Nat) : Int := if k = 0 then p else if k = 1 then q else r
theorem num3_cell {w : World} {b : Nat} {p q r : Int} {e : TypeId} {k : Nat} (h : w.heap[b]? = some (.cells #[.int .i64 p, .int .i64 q, .int .i64 r] e (0, 0))) (hk : k < 3) : w.cell? ⟨b, k, none⟩ = some (.int .i64 (num3 p q r k)) := by
  match k, hk with
  | 0, _ => exact cellOf h 0 _ rfl
  | 1, _ => exact cellOf h 1 _ rfl
  | 2, _ => exact cellOf h 2 _ rfl
theorem num3_bd (k : Nat) {p q r A B : Int} (h1 : A ≤ p) (h2 : p ≤ B) (h3 : A ≤ q) (h4 : q ≤ B) (h5 : A ≤ r) (h6 : r ≤ B) : A ≤ num3 p q r k ∧ num3 p q r k ≤ B := by
  unfold num3
  split
  · omega
  · split <;> omega
theorem up6 {p1 p2 p3 p4 p5 p6 : Prop} {W w' : World} {pv nv : Value} {s : Sheet} (HS : Hid (SheetAt W.heap.size W pv nv s)) (h : p1 ∧ p2 ∧ p3 ∧ p4 ∧ p5 ∧ p6 ∧ Hid (Below W.heap.size W w')) : SheetAt w'.heap.size w' pv nv s := HS.out.up h.2.2.2.2.2.2.out
theorem keep2ad {W w : World} {p1 p2 : Addr} {v1 v2 : Value} (h : w.drew.cell? p1 = some v1 ∧ w.drew.cell? p2 = some v2 ∧ Hid (Below W.heap.size W w.drew)) (o : Obj) :
    (w.alloc o).drew.cell? p1 = some v1 ∧ (w.alloc o).drew.cell? p2 = some v2 ∧ Hid (Below W.heap.size W (w.alloc o).drew) := by
  obtain ⟨c1, c2, c3⟩ := h
  have hb := below_ad w o (Nat.le_refl _)
  have g : ∀ {p : Addr} {v : Value}, w.drew.cell? p = some v → (w.alloc o).drew.cell? p = some v := fun {p v} h => (hb.cell (World.block_lt_of_cell? w p h)).trans h
  exact ⟨g c1, g c2, c3.out.trans (hb.mono c3.out.size)⟩

set_option maxRecDepth 100000 in
set_option maxHeartbeats 8000000 in
theorem lreached_any (s : Sheet) (pv nv : Value) (x y n : Nat) (w : World) (hS : SheetAt w.heap.size w pv nv s) (hcap : CapOk pv) (hx : x ≤ 255) (hy : y ≤ 255) (hn : n ≤ 65535) (hT : Tabs w) :
    Calls Tryz.prog 8 #[.agg #[.int .i64 s.iv, pv, nv], .agg #[.int .u8 x, .int .u8 y], .int .u16 n] w fun e w' => e = .returned (.bool true) ∧ Below w.heap.size w w' := by
  obtain ⟨iv, pts, notes⟩ := s
  obtain ⟨ln, na, nc, rfl, _⟩ := id hS.notes
  obtain ⟨lp, pa, pc, rfl, _⟩ := id hS.pts
  simp only at hS ln lp ⊢
  have B0 : Below w.heap.size w ((w.alloc (Obj.cells #[.int .i64 iv, .slice pa pts.length pc, .slice na notes.length nc] 25)).alloc (Obj.cells #[.int .u8 x, .int .u8 y] 58)) := by go_grown
  have hA := heap_alloc2_old w (Obj.cells #[.int .i64 iv, .slice pa pts.length pc, .slice na notes.length nc] 25) (Obj.cells #[.int .u8 x, .int .u8 y] 58)
  have hU := heap_alloc2_new w (Obj.cells #[.int .i64 iv, .slice pa pts.length pc, .slice na notes.length nc] 25) (Obj.cells #[.int .u8 x, .int .u8 y] 58)
  have HS := Lib.hid (hS.up B0)
  have HT := Lib.hid (hT.below B0)
  have HB := Lib.hid B0
  have HA := Lib.hid hA
  have HU := Lib.hid hU
  clear hA hU B0 hS hT
  go_enter Tryz.func8, Tryz.ntmps8
  go_wp2_with fail
  generalize ((w.alloc (Obj.cells #[.int .i64 iv, .slice pa pts.length pc, .slice na notes.length nc] 25)).alloc (Obj.cells #[.int .u8 x, .int .u8 y] 58)) = W at *
  have hAlt := lt_of_block HA.out
  have hUlt := lt_of_block HU.out
  refine (valid_any ⟨iv, pts, notes⟩ _ _ W HS.out hcap).mono ?_
  rintro e w1 ⟨rfl, hb⟩
  have HA1 := Lib.hid ((hb.block _ hAlt).trans HA.out)
  have HU1 := Lib.hid ((hb.block _ hUlt).trans HU.out)
  have HS1 := Lib.hid (HS.out.up hb)
  have HT1 := Lib.hid (HT.out.below hb)
  have HB1 := Lib.hid (HB.out.trans (hb.mono HB.out.size))
  have hAlt1 := lt_of_block HA1.out
  have hUlt1 := lt_of_block HU1.out
  clear hb HA HU HS HT HB hAlt hUlt
  clear W
  by_cases hv : errS ⟨iv, pts, notes⟩ = 0
  · have HV := Lib.hid ((check_valid _).1 hv)
    have tv : (errS ⟨iv, pts, notes⟩ == 0) = true := by simp [hv]
    rw [tv]
    clear tv hv
    have a0 := cellOf HA1.out 0 _ rfl
    have a1 := cellOf HA1.out 1 _ rfl
    have a2 := cellOf HA1.out 2 _ rfl
    by_cases h12 : notes.length = 12
    · have t12 : ((notes.length : Int) == 12) = true := by simp; omega
      clear h12
      go_wp2_with fail
      refine (awake_any _ HT1.out).mono ?_
      rintro e w2 ⟨rfl, hb⟩
      have HB2 := Lib.hid (HB1.out.trans (hb.mono HB1.out.size))
      clear hb
      go_wp2
      go_ret
      exact ⟨rfl, HB2.out⟩
    · have t12 : ((notes.length : Int) == 12) = false := by simp; omega
      have n12 : notes.length < 12 := by have := HV.out.nn; simp only at this; omega
      clear h12
      cases hf : fitB iv 0 notes
      · have hc := Heights_any ⟨iv, pts, notes⟩ (.slice pa pts.length pc) (.slice na notes.length nc) w1 HS1.out
        rw [meas_no HV.out hf] at hc
        have HC := Lib.hid hc
        have HF := Lib.hid hf
        clear hc hf
        go_wp2_with fail
        refine HC.out.mono ?_
        rintro e w2 ⟨v, rfl, _, hv0, hb⟩
        obtain rfl := hv0 (by decide)
        have hA := (hb.block _ hAlt1).trans HA1.out
        clear a0 a1 a2
        have a0 := cellOf hA 0 _ rfl
        have a1 := cellOf hA 1 _ rfl
        have a2 := cellOf hA 2 _ rfl
        have hc := Fits_any ⟨iv, pts, notes⟩ (.slice pa pts.length pc) (.slice na notes.length nc) w2 (HS1.out.up hb)
        rw [fitsS_of HV.out, errS_zero HV.out] at hc
        simp only [HF.out] at hc
        have HC2 := Lib.hid hc
        have HT2 := Lib.hid (HT1.out.below hb)
        have HB2 := Lib.hid (HB1.out.trans (hb.mono HB1.out.size))
        clear hb hc hA HC
        go_wp2_with fail
        refine HC2.out.mono ?_
        rintro e w3 ⟨rfl, hb⟩
        have HT3 := Lib.hid (HT2.out.below hb)
        have HB3 := Lib.hid (HB2.out.trans (hb.mono HB2.out.size))
        clear hb HC2 a0 a1 a2
        go_wp2_with fail
        refine (awake_any _ HT3.out).mono ?_
        rintro e w4 ⟨rfl, hb⟩
        have HB4 := Lib.hid (HB3.out.trans (hb.mono HB3.out.size))
        clear hb
        go_wp2
        go_ret
        exact ⟨rfl, HB4.out⟩
      · obtain ⟨hm, he⟩ := meas_fit HV.out hf
        have hc := Heights_any ⟨iv, pts, notes⟩ (.slice pa pts.length pc) (.slice na notes.length nc) w1 HS1.out
        rw [he] at hc
        have HC := Lib.hid hc
        have HF := Lib.hid hf
        have HM := Lib.hid hm
        have np1 := HV.out.np1
        have np8 := HV.out.np8
        simp only at np1 np8
        clear hc hf hm he
        go_wp2_with fail
        refine HC.out.mono ?_
        rintro e w2 ⟨v, rfl, hsp, hnil, hb⟩
        obtain ⟨g, hg, hgg, hglt, hcc⟩ := hsp (by first | trivial | rfl)
        have hlen : (heightS ⟨iv, pts, notes⟩).length = pts.length := by simp [heightS]
        rw [hlen] at hg
        subst hg
        have ha : x % pts.length < pts.length := Nat.mod_lt _ (by omega)
        have hbb : y % pts.length < pts.length := Nat.mod_lt _ (by omega)
        obtain ⟨g0, g1⟩ := hcc (x % pts.length) (by omega)
        have hE : (heightS ⟨iv, pts, notes⟩)[x % pts.length]'(by omega) = (-(ent (farM iv 0 notes) 8 (x % pts.length)), ent (farM iv 0 notes) (x % pts.length) 8) := by
          simp only [heightS, List.getElem_map, List.getElem_range]
          rw [HM.out]
          rfl
        rw [hE] at g0 g1
        have e1 := mod_nat x pts.length
        have e2 := mod_nat y pts.length
        have HMA := Lib.hid (farM_ends iv notes HF.out (a := x % pts.length) (by omega))
        have hA := (hb.block _ hAlt1).trans HA1.out
        have hU := (hb.block _ hUlt1).trans HU1.out
        have HS2 := Lib.hid (HS1.out.up hb)
        have HT2 := Lib.hid (HT1.out.below hb)
        have HB2 := Lib.hid (HB1.out.trans (hb.mono HB1.out.size))
        have hAlt2 := lt_of_block hA
        clear hgg hnil
        clear a0 a1 a2 hcc hE hsp hlen hb HC HA1 HU1 HS1 HT1 HB1 hAlt1 hUlt1
        clear w1
        have a0 := cellOf hA 0 _ rfl
        have a1 := cellOf hA 1 _ rfl
        have a2 := cellOf hA 2 _ rfl
        have u0 := cellOf hU 0 _ rfl
        have u1 := cellOf hU 1 _ rfl
        have HA2 := Lib.hid hA
        clear hA hU
        generalize hEL : -(ent (farM iv 0 notes) 8 (x % pts.length)) = lo at *
        generalize hEH : ent (farM iv 0 notes) (x % pts.length) 8 = hi at *
        have HEL := Lib.hid hEL
        have HEH := Lib.hid hEH
        clear hEL hEH
        generalize hEa : x % pts.length = a at *
        generalize hEb : y % pts.length = b at *
        have HEa := Lib.hid hEa
        have HEb := Lib.hid hEb
        clear hEa hEb
        have z0 : ((pts.length : Int) == 0) = false := by rw [beq_eq_false_iff_ne]; omega
        have pl : (pts.length : Int) ≤ 8 := by omega
        have pl1 : (1 : Int) ≤ (pts.length : Int) := by omega
        have bx : (x : Int) ≤ 255 := by omega
        have by' : (y : Int) ≤ 255 := by omega
        go_wp2_with fail
        go_quiet (fail)
        go_wp2_with fail
        have HB3 : Hid (Below w.heap.size w (w2.drewN nq)) := HB2.out.trans ⟨rfl, rfl, rfl, Nat.le_refl _, fun _ _ => rfl⟩
        have HS3 : Hid (SheetAt (w2.drewN nq).heap.size (w2.drewN nq) (.slice pa pts.length pc) (.slice na notes.length nc) ⟨iv, pts, notes⟩) := HS2.out.up ⟨rfl, rfl, rfl, Nat.le_refl _, fun _ _ => rfl⟩
        have HT3 : Hid (Tabs (w2.drewN nq)) := HT2.out.below ⟨rfl, rfl, rfl, Nat.le_refl _, fun _ _ => rfl⟩
        have HA3 : Hid ((w2.drewN nq).heap[w.heap.size]? = some (.cells #[.int .i64 iv, .slice pa pts.length pc, .slice na notes.length nc] 25 (0, 0))) := HA2.out
        have s0 : (w2.drewN nq).cell? ⟨g, a * 2, none⟩ = some (.int .i64 lo) := g0
        have s1 : (w2.drewN nq).cell? ⟨g, a * 2 + 1, none⟩ = some (.int .i64 hi) := g1
        clear a0 a1 a2 u0 u1 g0 g1 HB2 HS2 HT2 HA2 e1 e2 z0 hglt hAlt2
        generalize w2.drewN nq = w3 at *
        have la : (a : Int) < (pts.length : Int) := by omega
        have lb : (b : Int) < (pts.length : Int) := by omega
        go_region_held3 (fun W' => W'.cell? ⟨g, a * 2, none⟩ = some (.int .i64 lo) ∧ W'.cell? ⟨g, a * 2 + 1, none⟩ = some (.int .i64 hi) ∧ Hid (Below w3.heap.size w3 W'))
          (first | exact ⟨s0, s1, (Below.refl _ _).drew⟩ | (refine keep2ad ?_ _; assumption)) (fail)
        have HG : Hid (Below w3.heap.size w3 (w3.alloc (Obj.cells #[.int .i64 lo, .int .i64 hi, .int .i64 ((n : Int) % 9001)] 3)).drew) := ((Below.refl _ _).alloc (Nat.le_refl _) _).drew
        have HNB : Hid ((w3.alloc (Obj.cells #[.int .i64 lo, .int .i64 hi, .int .i64 ((n : Int) % 9001)] 3)).drew.heap[w3.heap.size]? = some (.cells #[.int .i64 lo, .int .i64 hi, .int .i64 ((n : Int) % 9001)] 3 (0, 0))) := heap_alloc_new w3 _
        go_wp2_with fail
        generalize hq4 : (w3.alloc (Obj.cells #[.int .i64 lo, .int .i64 hi, .int .i64 ((n : Int) % 9001)] 3)).drew = w4 at *
        have HNQ := Lib.hid HNB.out
        have HSQ := Lib.hid ((HS3.out.below HG.out).mono HG.out.size)
        have HTQ := Lib.hid (HT3.out.below HG.out)
        have HBQ := Lib.hid (HB3.out.trans (HG.out.mono HB3.out.size))
        have HAQ := Lib.hid ((HG.out.block _ (lt_of_block HA3.out)).trans HA3.out)
        have hAq := lt_of_block HAQ.out
        have hNlt := lt_of_block HNQ.out
        have S0 := Lib.hid ((HG.out.cell (p := ⟨g, a * 2, none⟩) (World.block_lt_of_cell? w3 _ s0)).trans s0)
        have S1 := Lib.hid ((HG.out.cell (p := ⟨g, a * 2 + 1, none⟩) (World.block_lt_of_cell? w3 _ s1)).trans s1)
        have hS0lt := World.block_lt_of_cell? w4 _ S0.out
        have hS1lt := World.block_lt_of_cell? w4 _ S1.out
        clear hq4 s0 s1 HG HNB HS3 HT3 HB3 HA3
        have hends := HMA.out
        go_loopw [15] (fun i wr => ∃ k : Nat, k ≤ 3 ∧ i = .int .i64 k ∧ Hid (Below w4.heap.size w4 wr)) (fun i _ => 3 - (intOf i).toNat)
        case atStart => exact ⟨0, by omega, rfl, Below.refl _ _⟩
        case round =>
          obtain ⟨k, hk, rfl, HR⟩ := hrel
          have hAr := (HR.out.block _ hAq).trans HAQ.out
          have a0 := cellOf hAr 0 _ rfl
          have a1 := cellOf hAr 1 _ rfl
          have a2 := cellOf hAr 2 _ rfl
          have s0 := (HR.out.cell (p := ⟨g, a * 2, none⟩) hS0lt).trans S0.out
          have s1 := (HR.out.cell (p := ⟨g, a * 2 + 1, none⟩) hS1lt).trans S1.out
          have HSR := Lib.hid ((HSQ.out.below HR.out).mono HR.out.size)
          have HTR := Lib.hid (HTQ.out.below HR.out)
          have HBR := Lib.hid (HBQ.out.trans (HR.out.mono HBQ.out.size))
          have HAR := Lib.hid hAr
          clear hAr
          by_cases hlt : k < 3
          · have hN := (HR.out.block _ hNlt).trans HNQ.out
            have nk := num3_cell hN hlt
            have yb := num3_bd k (p := lo) (q := hi) (r := (n : Int) % 9001) (A := 0) (B := 9000) (by omega) (by omega) (by omega) (by omega) (by omega) (by omega)
            generalize num3 _ _ _ k = v at nk yb
            obtain ⟨y0, y9⟩ := yb
            have kl : (k : Int) < 3 := by omega
            obtain ⟨d, hd⟩ : ∃ d, Hid (d = (decide (lo ≤ v) && decide (v ≤ hi))) := ⟨_, rfl⟩
            have HFIT : Hid (∀ (nv' : Value) (wX : World), SheetAt wX.heap.size wX (.slice pa pts.length pc) nv' ⟨iv, pts, notes ++ [⟨1, a, 0, v, v⟩]⟩ →
                Calls Tryz.prog 20 #[.agg #[.int .i64 iv, .slice pa pts.length pc, nv']] wX fun e w' => e = .returned (.tuple #[.bool d, .int .i64 0]) ∧ Below wX.heap.size wX w') := fun nv' wX h => by
              have hc := Fits_any ⟨iv, pts, notes ++ [⟨1, a, 0, v, v⟩]⟩ (.slice pa pts.length pc) nv' wX h
              have hV' : ValidS ⟨iv, pts, notes ++ [(⟨1, a, 0, v, v⟩ : Note)]⟩ := HV.out.with_ (notes ++ [⟨1, a, 0, v, v⟩]) (by simp; omega) (fun q hq => by
                rcases List.mem_append.1 hq with h1 | h1
                · exact HV.out.err0 q h1
                · rw [List.mem_singleton.1 h1]; exact spot_ok iv pts.length a v (by omega) (by omega) (by omega) (by omega))
              have hfs := fit_snoc iv 0 notes ⟨1, a, 0, v, v⟩ HF.out (a := a) (b := 8) (by omega) (by omega) v (NoteM_spot iv a (by omega) v (by omega) (by omega))
              rw [HEL.out, HEH.out] at hfs
              rw [errS_zero hV', fitsS_of hV'] at hc
              simp only [hfs] at hc
              rw [hd.out]
              exact hc
            have dd : (d != d) = false := by simp
            clear hN
            go_wp2_with fail
            go_region_held3 (fun W' => W'.cell? ⟨w.heap.size, 0, none⟩ = some (.int .i64 iv) ∧ W'.cell? ⟨w.heap.size, 1, none⟩ = some (.slice pa pts.length pc) ∧ W'.cell? ⟨w.heap.size, 2, none⟩ = some (.slice na notes.length nc) ∧ W'.cell? ⟨w3.heap.size, k, none⟩ = some (.int .i64 v) ∧ W'.cell? ⟨g, a * 2, none⟩ = some (.int .i64 lo) ∧ W'.cell? ⟨g, a * 2 + 1, none⟩ = some (.int .i64 hi) ∧ Hid (Below wr.heap.size wr W'))
              (first | exact ⟨a0, a1, a2, nk, s0, s1, (Below.refl _ _).drew⟩ | (refine keep6 ?_ hb; assumption))
              (first
                | (go_at_call 47; refine (lnote_any ⟨1, a, 0, v, v⟩ _).mono ?_; rintro e w' ⟨rfl, hb⟩)
                | (go_at_call 46; refine (lwith_any ⟨iv, pts, notes⟩ (.slice pa pts.length pc) (.slice na notes.length nc) ⟨1, a, 0, v, v⟩ _ (up6 HSR (by assumption)) (by simp only; omega)).mono ?_; rintro e w' ⟨nv', rfl, hSw, hb⟩)
                | (go_at_call 20; refine (HFIT.out _ _ hSw).mono ?_; rintro e w' ⟨rfl, hb⟩))
            all_goals
              obtain ⟨b0, b1, b2, nk', t0, t1, HRZ⟩ := (by assumption : w'.cell? ⟨w.heap.size, 0, none⟩ = some (.int .i64 iv) ∧ w'.cell? ⟨w.heap.size, 1, none⟩ = some (.slice pa pts.length pc) ∧ w'.cell? ⟨w.heap.size, 2, none⟩ = some (.slice na notes.length nc) ∧ w'.cell? ⟨w3.heap.size, k, none⟩ = some (.int .i64 v) ∧ w'.cell? ⟨g, a * 2, none⟩ = some (.int .i64 lo) ∧ w'.cell? ⟨g, a * 2 + 1, none⟩ = some (.int .i64 hi) ∧ Hid (Below wr.heap.size wr w'))
              have HRZ' := Lib.hid HRZ.out
              clear a0 a1 a2 nk s0 s1 hSw HFIT HRZ
              clear hb
              generalize w' = wz at *
              go_wp2_with fail
              go_region_held3 (fun W' => W'.cell? ⟨w.heap.size, 0, none⟩ = some (.int .i64 iv) ∧ W'.cell? ⟨w.heap.size, 1, none⟩ = some (.slice pa pts.length pc) ∧ W'.cell? ⟨w.heap.size, 2, none⟩ = some (.slice na notes.length nc) ∧ W'.cell? ⟨w3.heap.size, k, none⟩ = some (.int .i64 v) ∧ W'.cell? ⟨g, a * 2, none⟩ = some (.int .i64 lo) ∧ W'.cell? ⟨g, a * 2 + 1, none⟩ = some (.int .i64 hi) ∧ Hid (Below wz.heap.size wz W'))
                (first | exact ⟨b0, b1, b2, nk', t0, t1, (Below.refl _ _).drew⟩ | (refine keep6 ?_ hb; assumption))
                (first
                  | (go_at_call 44; refine (inside_any v lo hi _).mono ?_; rintro e w' ⟨rfl, hb⟩; rw [← hd.out]))
              all_goals
                have HRW : Hid (Below wz.heap.size wz w') := (by assumption : w'.cell? ⟨w.heap.size, 0, none⟩ = some (.int .i64 iv) ∧ w'.cell? ⟨w.heap.size, 1, none⟩ = some (.slice pa pts.length pc) ∧ w'.cell? ⟨w.heap.size, 2, none⟩ = some (.slice na notes.length nc) ∧ w'.cell? ⟨w3.heap.size, k, none⟩ = some (.int .i64 v) ∧ w'.cell? ⟨g, a * 2, none⟩ = some (.int .i64 lo) ∧ w'.cell? ⟨g, a * 2 + 1, none⟩ = some (.int .i64 hi) ∧ Hid (Below wz.heap.size wz w')).2.2.2.2.2.2
                have HRV := Lib.hid ((HR.out.trans (HRZ'.out.mono HR.out.size)).trans (HRW.out.mono (by have := HR.out.size; have := HRZ'.out.size; omega)))
                clear b0 b1 b2 nk' t0 t1 hb HRW
                go_wp2_with fail
                go_roundw
                case rel => exact ⟨k + 1, by omega, by go_num, HRV⟩
                case measure => simp [intOf]; omega
          · clear s0 s1 HNQ hNlt S0 S1 hS0lt hS1lt hAq HAQ HSQ HTQ HBQ HR
            obtain rfl : k = 3 := by omega
            clear hlt hk
            by_cases hab : a = b
            · have tab : ((a : Int) == (b : Int)) = true := by simp [hab]
              clear hab
              go_wp2_with fail
              refine (awake_any _ HTR.out).mono ?_
              rintro e wA ⟨rfl, hb⟩
              have HBA := Lib.hid (HBR.out.trans (hb.mono HBR.out.size))
              clear hb
              go_wp2
              go_ret
              exact ⟨rfl, HBA.out⟩
            · have tab : ((a : Int) == (b : Int)) = false := by simp; omega
              have HAB := Lib.hid hab
              have hend2 := farM_apart iv notes HF.out (a := a) (b := b) (by omega) (by omega)
              have hc := Apart_any ⟨iv, pts, notes⟩ (.slice pa pts.length pc) (.slice na notes.length nc) (a : Int) (b : Int) wr HSR.out
              have hap : apartS ⟨iv, pts, notes⟩ (a : Int) (b : Int) = ((-(ent (farM iv 0 notes) b a), ent (farM iv 0 notes) a b), orderV (-(ent (farM iv 0 notes) b a)) (ent (farM iv 0 notes) a b), 0) := by
                unfold apartS
                rw [if_neg (by rw [errS_zero HV.out]; simp), if_neg (by simp only; omega), if_neg (by rw [(meas_fit HV.out HF.out).2]; simp), HM.out]
                rfl
              rw [hap] at hc
              simp only at hc
              generalize hE2 : -(ent (farM iv 0 notes) b a) = lo2 at *
              generalize hE3 : ent (farM iv 0 notes) a b = hi2 at *
              generalize orderV lo2 hi2 = od at *
              have HE2 := Lib.hid hE2
              have HE3 := Lib.hid hE3
              have HC := Lib.hid hc
              clear hE2 hE3 hc hap hab
              have hAlr := lt_of_block HAR.out
              go_wp2_with fail
              refine HC.out.mono ?_
              rintro e w5 ⟨rfl, hb⟩
              have hA := (hb.block _ hAlr).trans HAR.out
              have HA5 := Lib.hid hA
              have HS5 := Lib.hid (HSR.out.up hb)
              have HT5 := Lib.hid (HTR.out.below hb)
              have HB5 := Lib.hid (HBR.out.trans (hb.mono HBR.out.size))
              have hAlt5 := lt_of_block hA
              clear hA hb HC HAR HSR HTR HBR a0 a1 a2
              go_wp2
              have HG : Hid (Below w5.heap.size w5 ((w5.alloc (Obj.cells #[.int .i64 lo2, .int .i64 hi2] 40)).alloc (Obj.cells #[.int .i64 lo2, .int .i64 hi2, .int .i64 ((n : Int) % 18001 - 9000)] 3))) := by show Below _ _ _; go_grown
              have HSB : Hid (((w5.alloc (Obj.cells #[.int .i64 lo2, .int .i64 hi2] 40)).alloc (Obj.cells #[.int .i64 lo2, .int .i64 hi2, .int .i64 ((n : Int) % 18001 - 9000)] 3)).heap[w5.heap.size]? = some (.cells #[.int .i64 lo2, .int .i64 hi2] 40 (0, 0))) := heap_alloc2_old w5 _ _
              have HNB : Hid (((w5.alloc (Obj.cells #[.int .i64 lo2, .int .i64 hi2] 40)).alloc (Obj.cells #[.int .i64 lo2, .int .i64 hi2, .int .i64 ((n : Int) % 18001 - 9000)] 3)).heap[w5.heap.size + 1]? = some (.cells #[.int .i64 lo2, .int .i64 hi2, .int .i64 ((n : Int) % 18001 - 9000)] 3 (0, 0))) := heap_alloc2_new w5 _ _
              generalize hq6 : ((w5.alloc (Obj.cells #[.int .i64 lo2, .int .i64 hi2] 40)).alloc (Obj.cells #[.int .i64 lo2, .int .i64 hi2, .int .i64 ((n : Int) % 18001 - 9000)] 3)) = w6 at *
              have HNQ := Lib.hid HNB.out
              have HSQ := Lib.hid ((HS5.out.below HG.out).mono HG.out.size)
              have HTQ := Lib.hid (HT5.out.below HG.out)
              have HBQ := Lib.hid (HB5.out.trans (HG.out.mono HB5.out.size))
              have HAQ := Lib.hid ((HG.out.block _ hAlt5).trans HA5.out)
              have hAq := lt_of_block HAQ.out
              have hNlt := lt_of_block HNQ.out
              have S0 : Hid (w6.cell? ⟨w5.heap.size, 0, none⟩ = some (.int .i64 lo2)) := cellOf HSB.out 0 _ rfl
              have S1 : Hid (w6.cell? ⟨w5.heap.size, 1, none⟩ = some (.int .i64 hi2)) := cellOf HSB.out 1 _ rfl
              have hS0lt := World.block_lt_of_cell? w6 _ S0.out
              have hS1lt := World.block_lt_of_cell? w6 _ S1.out
              clear hq6 HG HNB HSB HS5 HT5 HB5 HA5
              go_loopw [22] (fun i wr => ∃ k : Nat, k ≤ 3 ∧ i = .int .i64 k ∧ Hid (Below w6.heap.size w6 wr)) (fun i _ => 3 - (intOf i).toNat)
              case atStart => exact ⟨0, by omega, rfl, Below.refl _ _⟩
              case round =>
                obtain ⟨k, hk, rfl, HR⟩ := hrel
                have hAr := (HR.out.block _ hAq).trans HAQ.out
                have a0 := cellOf hAr 0 _ rfl
                have a1 := cellOf hAr 1 _ rfl
                have a2 := cellOf hAr 2 _ rfl
                have s0 := (HR.out.cell (p := ⟨w5.heap.size, 0, none⟩) hS0lt).trans S0.out
                have s1 := (HR.out.cell (p := ⟨w5.heap.size, 1, none⟩) hS1lt).trans S1.out
                have HSR := Lib.hid ((HSQ.out.below HR.out).mono HR.out.size)
                have HTR := Lib.hid (HTQ.out.below HR.out)
                have HBR := Lib.hid (HBQ.out.trans (HR.out.mono HBQ.out.size))
                have HAR := Lib.hid hAr
                clear hAr
                by_cases hlt : k < 3
                · have hN := (HR.out.block _ hNlt).trans HNQ.out
                  have nk := num3_cell hN hlt
                  have yb := num3_bd k (p := lo2) (q := hi2) (r := (n : Int) % 18001 - 9000) (A := -9000) (B := 9000) (by omega) (by omega) (by omega) (by omega) (by omega) (by omega)
                  generalize num3 _ _ _ k = v at nk yb
                  obtain ⟨y0, y9⟩ := yb
                  have kl : (k : Int) < 3 := by omega
                  obtain ⟨d, hd⟩ : ∃ d, Hid (d = (decide (lo2 ≤ v) && decide (v ≤ hi2))) := ⟨_, rfl⟩
                  have HFIT : Hid (∀ (nv' : Value) (wX : World), SheetAt wX.heap.size wX (.slice pa pts.length pc) nv' ⟨iv, pts, notes ++ [⟨4, a, b, v, v⟩]⟩ →
                      Calls Tryz.prog 20 #[.agg #[.int .i64 iv, .slice pa pts.length pc, nv']] wX fun e w' => e = .returned (.tuple #[.bool d, .int .i64 0]) ∧ Below wX.heap.size wX w') := fun nv' wX h => by
                    have hc := Fits_any ⟨iv, pts, notes ++ [⟨4, a, b, v, v⟩]⟩ (.slice pa pts.length pc) nv' wX h
                    have hV' : ValidS ⟨iv, pts, notes ++ [(⟨4, a, b, v, v⟩ : Note)]⟩ := HV.out.with_ (notes ++ [⟨4, a, b, v, v⟩]) (by simp; omega) (fun q hq => by
                      rcases List.mem_append.1 hq with h1 | h1
                      · exact HV.out.err0 q h1
                      · rw [List.mem_singleton.1 h1]; exact slope_ok iv pts.length a b v (by omega) (by omega) (by omega) HAB.out (by omega) (by omega))
                    have hfs := fit_snoc iv 0 notes ⟨4, a, b, v, v⟩ HF.out (a := a) (b := b) (by omega) (by omega) v (NoteM_slope iv a b (by omega) (by omega) v (by omega) (by omega))
                    rw [HE2.out, HE3.out] at hfs
                    rw [errS_zero hV', fitsS_of hV'] at hc
                    simp only [hfs] at hc
                    rw [hd.out]
                    exact hc
                  have dd : (d != d) = false := by simp
                  clear hN
                  go_wp2_with fail
                  go_region_held3 (fun W' => W'.cell? ⟨w.heap.size, 0, none⟩ = some (.int .i64 iv) ∧ W'.cell? ⟨w.heap.size, 1, none⟩ = some (.slice pa pts.length pc) ∧ W'.cell? ⟨w.heap.size, 2, none⟩ = some (.slice na notes.length nc) ∧ W'.cell? ⟨w5.heap.size + 1, k, none⟩ = some (.int .i64 v) ∧ W'.cell? ⟨w5.heap.size, 0, none⟩ = some (.int .i64 lo2) ∧ W'.cell? ⟨w5.heap.size, 1, none⟩ = some (.int .i64 hi2) ∧ Hid (Below wr.heap.size wr W'))
                    (first | exact ⟨a0, a1, a2, nk, s0, s1, (Below.refl _ _).drew⟩ | (refine keep6 ?_ hb; assumption))
                    (first
                      | (go_at_call 47; refine (lnote_any ⟨4, a, b, v, v⟩ _).mono ?_; rintro e w' ⟨rfl, hb⟩)
                      | (go_at_call 46; refine (lwith_any ⟨iv, pts, notes⟩ (.slice pa pts.length pc) (.slice na notes.length nc) ⟨4, a, b, v, v⟩ _ (up6 HSR (by assumption)) (by simp only; omega)).mono ?_; rintro e w' ⟨nv', rfl, hSw, hb⟩)
                      | (go_at_call 20; refine (HFIT.out _ _ hSw).mono ?_; rintro e w' ⟨rfl, hb⟩))
                  all_goals
                    obtain ⟨b0, b1, b2, nk', t0, t1, HRZ⟩ := (by assumption : w'.cell? ⟨w.heap.size, 0, none⟩ = some (.int .i64 iv) ∧ w'.cell? ⟨w.heap.size, 1, none⟩ = some (.slice pa pts.length pc) ∧ w'.cell? ⟨w.heap.size, 2, none⟩ = some (.slice na notes.length nc) ∧ w'.cell? ⟨w5.heap.size + 1, k, none⟩ = some (.int .i64 v) ∧ w'.cell? ⟨w5.heap.size, 0, none⟩ = some (.int .i64 lo2) ∧ w'.cell? ⟨w5.heap.size, 1, none⟩ = some (.int .i64 hi2) ∧ Hid (Below wr.heap.size wr w'))
                    have HRZ' := Lib.hid HRZ.out
                    clear a0 a1 a2 nk s0 s1 hSw HFIT HRZ
                    clear hb
                    generalize w' = wz at *
                    go_wp2_with fail
                    go_region_held3 (fun W' => W'.cell? ⟨w.heap.size, 0, none⟩ = some (.int .i64 iv) ∧ W'.cell? ⟨w.heap.size, 1, none⟩ = some (.slice pa pts.length pc) ∧ W'.cell? ⟨w.heap.size, 2, none⟩ = some (.slice na notes.length nc) ∧ W'.cell? ⟨w5.heap.size + 1, k, none⟩ = some (.int .i64 v) ∧ W'.cell? ⟨w5.heap.size, 0, none⟩ = some (.int .i64 lo2) ∧ W'.cell? ⟨w5.heap.size, 1, none⟩ = some (.int .i64 hi2) ∧ Hid (Below wz.heap.size wz W'))
                      (first | exact ⟨b0, b1, b2, nk', t0, t1, (Below.refl _ _).drew⟩ | (refine keep6 ?_ hb; assumption))
                      (first
                        | (go_at_call 44; refine (inside_any v lo2 hi2 _).mono ?_; rintro e w' ⟨rfl, hb⟩; rw [← hd.out]))
                    all_goals
                      have HRW : Hid (Below wz.heap.size wz w') := (by assumption : w'.cell? ⟨w.heap.size, 0, none⟩ = some (.int .i64 iv) ∧ w'.cell? ⟨w.heap.size, 1, none⟩ = some (.slice pa pts.length pc) ∧ w'.cell? ⟨w.heap.size, 2, none⟩ = some (.slice na notes.length nc) ∧ w'.cell? ⟨w5.heap.size + 1, k, none⟩ = some (.int .i64 v) ∧ w'.cell? ⟨w5.heap.size, 0, none⟩ = some (.int .i64 lo2) ∧ w'.cell? ⟨w5.heap.size, 1, none⟩ = some (.int .i64 hi2) ∧ Hid (Below wz.heap.size wz w')).2.2.2.2.2.2
                      have HRV := Lib.hid ((HR.out.trans (HRZ'.out.mono HR.out.size)).trans (HRW.out.mono (by have := HR.out.size; have := HRZ'.out.size; omega)))
                      clear b0 b1 b2 nk' t0 t1 hb HRW
                      go_wp2_with fail
                      go_roundw
                      case rel => exact ⟨k + 1, by omega, by go_num, HRV⟩
                      case measure => simp [intOf]; omega
                · clear s0 s1 HNQ hNlt S0 S1 hS0lt hS1lt hAq HAQ HSQ HTQ HBQ HR
                  obtain rfl : k = 3 := by omega
                  clear hlt hk
                  go_wp2_with fail
                  refine (awake_any _ HTR.out).mono ?_
                  rintro e wA ⟨rfl, hb⟩
                  have HBA := Lib.hid (HBR.out.trans (hb.mono HBR.out.size))
                  clear hb
                  go_wp2
                  go_ret
                  exact ⟨rfl, HBA.out⟩
  · have tv : (errS ⟨iv, pts, notes⟩ == 0) = false := by simp [hv]
    rw [tv]
    clear tv hv
    go_wp2_with fail
    refine (awake_any _ HT1.out).mono ?_
    rintro e w2 ⟨rfl, hb⟩
    have HB2 := Lib.hid (HB1.out.trans (hb.mono HB1.out.size))
    clear hb
    go_wp2
    go_ret
    exact ⟨rfl, HB2.out⟩
end Go.Proofs.YteipihhpoakhpaaGreatDoor
