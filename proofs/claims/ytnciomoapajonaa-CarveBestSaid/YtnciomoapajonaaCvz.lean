/- Package carve: the walk of passesOf. -/
import Derived.Test.YtnciomoapajonaaCvy
set_option linter.unusedSimpArgs false
set_option linter.unusedVariables false
namespace Go.Proofs.Ytnciomoapajonaa
open Go Go.RowKit Cv

theorem own_slice {w : World} {base e size n : Nat} {v : Value} {xs : List Value} (h : w.ownsRow base e size v n xs) : ∃ sa sc, v = .slice sa n sc := by
  rcases h.2 with ⟨rfl, rfl⟩ | ⟨g, cap, cur, rfl, _⟩
  · exact ⟨_, _, rfl⟩
  · exact ⟨_, _, rfl⟩
theorem own_some {w : World} {base e size n c : Nat} {a : Option Addr} {xs : List Value} (h : w.ownsRow base e size (.slice a n c) n xs) (hn : 0 < n) : ∃ g, a = some ⟨g, 0, none⟩ := by
  rcases h.2 with ⟨h1, rfl⟩ | ⟨g, cap, cur, h1, _⟩
  · omega
  · simp only [Value.slice.injEq] at h1
    exact ⟨g, h1.1⟩
set_option maxRecDepth 100000 in
set_option maxHeartbeats 4000000 in
theorem passesOf_any (v : Value) (d : List Int) (w : World) (hD : IntsAt w v d) (h1 : 0 < d.length) (h10 : d.length ≤ 10) (hd : ∀ x, x ∈ d → 0 ≤ x ∧ x ≤ 9000) (hm : 0 ≤ Lib.maxOf d ∧ Lib.maxOf d ≤ 9000) :
    Calls Try.prog 67 #[v] w fun e w' => ∃ v', e = .returned v' ∧ w'.ownsRow w.heap.size 90 2 v' (passL d).length (passC (passL d)) ∧ Below w.heap.size w w' := by
  obtain ⟨i0, hi⟩ := info_of_underlying Try.underlying90
  have HI : Hid (i0.zero = some (.agg #[.int .i64 0, .int .i64 0]) ∧ i0.size = 2 ∧ i0.bytes = 16) := by
    have h := passInfo
    rw [hi] at h
    simp at h
    exact h
  obtain ⟨ld, da, dc, rfl, _, _⟩ := id hD
  have HD := Lib.hid hD
  have HMX := Lib.hid (maxOf_any _ d w hD h1)
  have HDR := Lib.hid hd
  obtain ⟨M, HM⟩ : ∃ M : Nat, Hid (Lib.maxOf d = (M : Int)) := ⟨(Lib.maxOf d).toNat, by show _ = _; omega⟩
  have hM : M ≤ 9000 := by have := HM.out; omega
  have HP : Hid (passL d = passOut d M) := by show _ = _; unfold passL; rw [HM.out]; rfl
  rw [HM.out] at HMX
  clear hD hd hm
  go_enter Try.func67, Try.ntmps67
  go_wp2_with fail
  refine HMX.out.mono ?_
  rintro e w1 ⟨rfl, rfl⟩
  clear HMX
  go_wp2
  go_loopg [2, 8] M (fun g v i wr => ∃ (L : Nat) (acc : List (Int × Int)) (sa : Option Addr) (n sc : Nat), g + L = M ∧ i = .int .i64 L ∧ v = .slice sa n sc ∧ wr.ownsRow w1.heap.size 90 2 (.slice sa n sc) n (passC acc) ∧ Hid (n = acc.length) ∧ Hid (acc = passOut d L) ∧ Hid (Below w1.heap.size w1 wr))
  case atStart => exact ⟨0, [], none, 0, 0, rfl, rfl, rfl, World.ownsRow_nil _ _ _ _, rfl, rfl, Below.refl _ _⟩
  case round =>
    obtain ⟨L, acc, sa, n, sc, hk, rfl, rfl, hown, hna, HAC, HR⟩ := hrel
    by_cases hlt : L < M
    · have LI : (L : Int) < (M : Int) := by omega
      have L9 : (L : Int) ≤ 9000 := by omega
      have MI : (M : Int) ≤ 9000 := by omega
      have hbig : acc.length ≤ 90000 := by
        have := passOut_length d L
        rw [← HAC.out] at this
        have : L * d.length ≤ 9000 * 10 := Nat.mul_le_mul (by omega) h10
        omega
      have HPS : Hid (passOut d (L + 1) = passIn d L acc d.length) := by show _ = _; rw [HAC.out]; rfl
      clear HAC
      have dI : (d.length : Int) ≤ 10 := by omega
      obtain ⟨g', rfl⟩ : ∃ g', gk = g' + 1 := ⟨gk - 1, by omega⟩
      go_wp2
      go_loopg [2, 13] d.length (fun g v i wr => ∃ (k : Nat) (ac2 : List (Int × Int)) (sa : Option Addr) (n sc : Nat), g + k = d.length ∧ i = .int .i64 k ∧ v = .slice sa n sc ∧ wr.ownsRow w1.heap.size 90 2 (.slice sa n sc) n (passC ac2) ∧ Hid (n = ac2.length) ∧ Hid (ac2 = passIn d L acc k) ∧ Hid (Below w1.heap.size w1 wr))
      case atStart => exact ⟨0, acc, sa, n, sc, rfl, rfl, rfl, hown, hna, rfl, HR⟩
      case round =>
        clear hown HR
        obtain ⟨k, ac2, sa, n, sc, hk2, rfl, rfl, hown, hna2, HAC2, HR⟩ := hrel
        by_cases hlt2 : k < d.length
        · have kI : (k : Int) < (d.length : Int) := by omega
          have k10 : (k : Int) ≤ 10 := by omega
          obtain ⟨bd, od, e, c0⟩ := (HD.out.below HR.out).get hlt2
          obtain ⟨x, HX⟩ : ∃ x : Int, Hid (d[k] = x) := ⟨d[k], rfl⟩
          have HXG : Hid (d.getD k 0 = x) := by show _ = _; rw [← HX.out]; simp [List.getD_eq_getElem?_getD, hlt2]
          have hx := HDR.out d[k] (List.getElem_mem _)
          rw [HX.out] at c0 hx
          have hb2 : ac2.length ≤ 90010 := by
            have := passIn_length d L acc k
            rw [← HAC2.out] at this
            omega
          have HST : Hid (passIn d L acc (k + 1) = passStep d L ac2 k) := by show _ = _; rw [HAC2.out]; rfl
          subst e
          by_cases hxl : x ≤ L
          · have HS2 : Hid (passStep d L ac2 k = ac2) := by show _ = _; unfold passStep; rw [HXG.out, if_pos hxl]
            go_wp2
            go_roundg (gk - 1)
            case measure => omega
            case rel => exact ⟨k + 1, ac2, sa, n, sc, by omega, by go_num, rfl, hown, hna2, by show _ = _; rw [HST.out, HS2.out], HR⟩
          · have hxl2 : (L : Int) < x := by omega
            have n9 : (n : Int) ≤ 90010 := by have := hna2.out; omega
            by_cases hk0 : k = 0
            · have HAP : Hid (passIn d L acc (k + 1) = ac2 ++ [((k : Int), (k : Int))]) := by
                show _ = _
                rw [HST.out]
                unfold passStep
                rw [HXG.out, if_neg hxl, if_neg (by omega)]
              have kz : ¬ ((0 : Int) < (k : Int)) := by omega
              clear hk0 hxl
              have HT : Hid (passIn d L acc (k + 1) = ac2 ++ [((k : Int), (k : Int))]) := HAP
              have hownA := hown.alloc (Obj.cells #[.int .i64 k, .int .i64 k] 90)
              have hHb : Hid (Below w1.heap.size w1 (wr.alloc (Obj.cells #[.int .i64 k, .int .i64 k] 90))) := HR.out.alloc HR.out.size _
              clear HST HAC2 HAP hown
              go_wp2_with (at_builtin; refine wpList_append_own _ rfl _ _ 37 rfl w1.heap.size 90 i0 (.agg #[.int .i64 0, .int .i64 0]) 2 16 Try.underlying37 hi HI.out.1 HI.out.2.1 HI.out.2.2 rfl (by decide) _ _ _ rfl hownA ⟨wr.heap.size, 0, none⟩ 1 1 [.int .i64 k, .int .i64 k] rfl rfl ?pa1 ?pa2 ?pa3 ?pa4 ?pa5 ?_)
              case pa2 => rfl
              case pa3 => unfold maxLen; omega
              case pa4 => omega
              case pa5 => have := hHb.out.size; simpa using this
              · intro v' w3 hown3 hgrow _
                have hB3 : Hid (Below w1.heap.size w1 w3) := hHb.out.grown hgrow hHb.out.size (fun g hg => (hownA.lt g hg).1)
                obtain ⟨sa', sc', rfl⟩ := own_slice hown3
                clear hgrow hownA
                go_wp2
                go_roundg (gk - 1)
                case measure => omega
                case rel => exact ⟨k + 1, ac2 ++ [((k : Int), (k : Int))], sa', n + 1, sc', by omega, by go_num, rfl, by rw [passC_append]; exact hown3, by show _ = _; rw [List.length_append, ← hna2.out]; rfl, by show _ = _; rw [HT.out], hB3⟩
            · obtain ⟨p, hp⟩ : ∃ p, k = p + 1 := ⟨k - 1, by omega⟩
              obtain ⟨bd', od', e, c1⟩ := (HD.out.below HR.out).get (show p < d.length by omega)
              simp only [Option.some.injEq, Addr.mk.injEq, and_true] at e
              obtain ⟨rfl, rfl⟩ := e
              have kp : (0 : Int) < (k : Int) := by omega
              have pI : (p : Int) < (d.length : Int) := by omega
              have wI : IntKind.i64.wrap ((k : Int) - 1) = (p : Int) := by rw [IntKind.wrap_i64]; omega
              have hpd : p < d.length := by omega
              obtain ⟨y, HY⟩ : ∃ y : Int, Hid (d[p] = y) := ⟨d[p], rfl⟩
              have HYG : Hid (d.getD (k - 1) 0 = y) := by
                show _ = _
                rw [← HY.out, show k - 1 = p by omega]
                simp [List.getD_eq_getElem?_getD, hpd]
              have hy := HDR.out d[p] (List.getElem_mem _)
              rw [HY.out] at c1 hy
              by_cases hyl : (L : Int) < y
              · have HS3 : Hid (passIn d L acc (k + 1) = setLast ac2 k) := by
                  show _ = _
                  rw [HST.out]
                  unfold passStep
                  rw [HXG.out, if_neg hxl, if_pos ⟨by omega, by rw [HYG.out]; exact hyl⟩]
                have hne : 0 < ac2.length := by
                  rw [HAC2.out, hp]
                  refine passIn_ne d L acc p ?_
                  have := HYG.out
                  rw [show k - 1 = p by omega] at this
                  rw [this]
                  exact hyl
                have hnn := hna2.out
                obtain ⟨q, hq⟩ : ∃ q, n = q + 1 := ⟨n - 1, by omega⟩
                have qI : (q : Int) < (n : Int) := by omega
                have wQ : IntKind.i64.wrap ((n : Int) - 1) = (q : Int) := by rw [IntKind.wrap_i64]; omega
                obtain ⟨gg, rfl⟩ := own_some hown (by omega)
                have hl := hown.1
                obtain ⟨u1, d1⟩ : ∃ u, wr.cell? ⟨gg, q * 2 + 1, none⟩ = some u := ⟨_, (hown.cellAt (q * 2 + 1) (by omega)).trans (List.getElem?_eq_getElem (by omega))⟩
                have f1 := hown.frozenAt (q * 2 + 1)
                have s1 := hown.stored (q * 2 + 1) (.int .i64 k)
                have hgl := (hown.lt gg rfl).1
                have HO := Lib.hid s1.1
                have HB3 : Hid (Below w1.heap.size w1 (wr.setCell ⟨gg, q * 2 + 1, none⟩ (.int .i64 k))) := HR.out.setCell hgl _
                have HL3 : Hid ((passC ac2).set (q * 2 + 1) (.int .i64 k) = passC (setLast ac2 k)) := by
                  have := passC_last ac2 k hne
                  rw [show ac2.length - 1 = q by omega] at this
                  exact this
                rw [HL3.out] at HO
                clear s1 hown HST HAC2 HL3 hp hl hnn hne hq hk0 hxl
                go_wp2
                go_roundg (gk - 1)
                case measure => omega
                case rel => exact ⟨k + 1, setLast ac2 k, some ⟨gg, 0, none⟩, n, sc, by omega, by go_num, rfl, HO.out, by rw [setLast_length]; exact hna2, by show _ = _; rw [HS3.out], HB3⟩
              · have HAP : Hid (passIn d L acc (k + 1) = ac2 ++ [((k : Int), (k : Int))]) := by
                  show _ = _
                  rw [HST.out]
                  unfold passStep
                  rw [HXG.out, if_neg hxl, if_neg (fun h => hyl (by have := h.2; rw [HYG.out] at this; exact this))]
                have hyl' : y ≤ (L : Int) := by omega
                clear hk0 hxl hp hyl
                have HT : Hid (passIn d L acc (k + 1) = ac2 ++ [((k : Int), (k : Int))]) := HAP
                have hownA := hown.alloc (Obj.cells #[.int .i64 k, .int .i64 k] 90)
                have hHb : Hid (Below w1.heap.size w1 (wr.alloc (Obj.cells #[.int .i64 k, .int .i64 k] 90))) := HR.out.alloc HR.out.size _
                clear HST HAC2 HAP hown
                go_wp2_with (at_builtin; refine wpList_append_own _ rfl _ _ 37 rfl w1.heap.size 90 i0 (.agg #[.int .i64 0, .int .i64 0]) 2 16 Try.underlying37 hi HI.out.1 HI.out.2.1 HI.out.2.2 rfl (by decide) _ _ _ rfl hownA ⟨wr.heap.size, 0, none⟩ 1 1 [.int .i64 k, .int .i64 k] rfl rfl ?pb1 ?pb2 ?pb3 ?pb4 ?pb5 ?_)
                case pb1 =>
                  intro j u hj
                  match j, hj with
                  | 0, hj => simp at hj; subst hj; simp [Addr.add]
                  | 1, hj => simp at hj; subst hj; simp [Addr.add]
                  | j + 2, hj => simp at hj
                case pb2 => intro u hu; simp at hu; subst hu; rfl
                case pb3 => unfold maxLen; omega
                case pb4 => omega
                case pb5 => exact hHb.out.size
                · intro v' w3 hown3 hgrow _
                  have hB3 : Hid (Below w1.heap.size w1 w3) := hHb.out.grown hgrow hHb.out.size (fun g hg => (hownA.lt g hg).1)
                  obtain ⟨sa', sc', rfl⟩ := own_slice hown3
                  clear hgrow hownA
                  go_wp2
                  go_roundg (gk - 1)
                  case measure => omega
                  case rel => exact ⟨k + 1, ac2 ++ [((k : Int), (k : Int))], sa', n + 1, sc', by omega, by go_num, rfl, by rw [passC_append]; exact hown3, by show _ = _; rw [List.length_append, ← hna2.out]; rfl, by show _ = _; rw [HT.out], hB3⟩
        · obtain rfl : k = d.length := by omega
          clear hlt2 hk2
          go_wp2
          go_roundg g'
          case measure => omega
          case rel => exact ⟨L + 1, ac2, sa, n, sc, by omega, by go_num, rfl, hown, hna2, by show _ = _; rw [HPS.out, HAC2.out], HR⟩
    · obtain rfl : L = M := by omega
      clear hlt hk
      go_wp2
      go_ret
      refine ⟨_, rfl, ?_, HR.out⟩
      rw [HP.out, ← HAC.out, ← hna.out]
      exact hown
end Go.Proofs.Ytnciomoapajonaa
