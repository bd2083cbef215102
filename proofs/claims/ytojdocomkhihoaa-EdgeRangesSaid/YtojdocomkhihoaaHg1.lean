/- Package edge: cheapest. -/
import Derived.Test.YtojdocomkhihoaaHf1
set_option linter.unusedSimpArgs false
set_option linter.unusedVariables false
namespace Go.Proofs.Ytojdocomkhihoaa
open Go Go.RowKit Go.Shelf Ed

theorem below_bm {B mb : Nat} {w x y : World} (h : Below B w x) (hb : Bm mb x y) (h1 : B ≤ mb) (h2 : B ≤ x.heap.size) : Below B w y :=
  ⟨hb.os.trans h.os, hb.tape.trans h.tape, hb.output.trans h.output, Nat.le_trans h.size hb.size, fun k hk => (hb.block k (by omega) (by omega)).trans (h.block k hk)⟩
/-- Changes that the search may be at. -/
structure At (c : Cas) (ws : List Int) (x : List Int) : Prop where
  len : x.length = 5
  ag : Ag (sysC c ws) (fun i => x.getD i 0)
  out : ∀ i, c.shs.length ≤ i → x.getD i 0 = 0
theorem At.bd {c : Cas} {ws x : List Int} (hv : Valid c) (h : At c ws x) (i : Nat) : -900 ≤ x.getD i 0 ∧ x.getD i 0 ≤ 900 := by
  rcases Nat.lt_or_ge i c.shs.length with hi | hi
  · have h1 := h.ag.bx i hi
    have h2 := (hv.sh _ (List.getElem_mem hi)).m6
    simp only [sysC, getD_lt _ _ hi] at h1
    omega
  · rw [h.out i hi]; omega
set_option maxRecDepth 100000 in
set_option maxHeartbeats 4000000 in
theorem cheapest_any (c : Cas) (hv : Valid c) (sv ev : Value) (ws : List Int) (hw : ws.length = 16) (x r : List Int) (hx : At c ws x) (htop : ∀ y, Ag (sysC c ws) y → ∀ i, i < c.shs.length → y i ≤ x.getD i 0) (hr : cheapGo c ws 100 x = some r) (w : World) (hC : CasAt w c sv ev) :
    Calls Try.prog 65 #[.agg (lkC c.tol sv ev ws), .agg (chC x)] w fun e w' => e = .returned (.agg (chC r)) ∧ Below w.heap.size w w' := by
  obtain ⟨z, hz, hzl⟩ := Mn.bot (sys_fine c hv ws) ⟨_, hx.ag⟩
  obtain ⟨sa, n, sc, rfl, hn⟩ : ∃ a n cc, sv = .slice a n cc ∧ n = c.shs.length := by obtain ⟨_, a, cap, h, _⟩ := hC.shs; exact ⟨_, _, _, h, rfl⟩
  subst hn
  obtain ⟨W, hW, q1, q2, q3, hb, hs⟩ := al3 w (Obj.cells (lkC c.tol (.slice sa c.shs.length sc) ev ws) 89) (Obj.cells (chC x) 96) (Obj.cells (chC z5) 96)
  have K1 : Hid (LkBlk W w.heap.size c.tol (.slice sa c.shs.length sc) ev ws) := q1
  have K2 : Hid (ChBlk W (w.heap.size + 1) x) := q2
  have K3 : Hid (ChBlk W (w.heap.size + 1 + 1) z5) := q3
  have HB := Lib.hid hb
  have HWW := Lib.hid hW
  have HC := Lib.hid (hC.below hb)
  have HC0 := Lib.hid hC
  have HPR := Lib.hid (prices_any c _ _ ws W (hC.below hb))
  have HV := Lib.hid hv
  have HW5 := Lib.hid hw
  have HX := Lib.hid hx
  have HR := Lib.hid hr
  have HZ := Lib.hid hz
  have HZL := Lib.hid hzl
  have HZX : Hid (∀ i, i < c.shs.length → z i ≤ x.getD i 0) := htop z hz.1
  have hzz := (zero_of_info chZero).1
  have HZZ := Lib.hid hzz
  have KA : Hid (LkBlk (((w.alloc (Obj.cells (lkC c.tol (.slice sa c.shs.length sc) ev ws) 89)).alloc (Obj.cells (chC x) 96)).alloc (Obj.cells (chC z5) 96)) w.heap.size c.tol (.slice sa c.shs.length sc) ev ws) := by show LkBlk _ _ _ _ _ _; rw [hW]; exact q1
  clear hW q1 q2 q3 hb hC hv hw hx hr hz hzl htop
  go_enter Try.func65, Try.ntmps65
  go_wp2_with (refine lk_loadw (by rfl) (.tmp 2) rfl w.heap.size rfl c.tol (.slice sa c.shs.length sc) ev ws KA.out HW5.out ?_)
  rw [HWW.out]
  refine HPR.out.mono ?_
  rintro e w2 ⟨rfl, hP2, hb2⟩
  have J1 := Lib.hid (K1.out.below hb2 K1.out.lt)
  have J2 := Lib.hid (K2.out.below hb2 K2.out.lt)
  have J3 := Lib.hid (K3.out.below hb2 K3.out.lt)
  have JB := Lib.hid (HB.out.trans (hb2.mono HB.out.size))
  have JP := Lib.hid hP2
  have hsz2 : W.heap.size ≤ w2.heap.size := hb2.size
  clear HPR KA HWW K1 K2 K3 HB hb2 hP2 HC
  generalize W.heap.size = q at *
  have HS := Lib.hid hs
  clear hs
  obtain ⟨V3, hV3, p1, p2, hb3, hs3⟩ := al2 w2 (Obj.cells #[(.func (.func 105) #[] #[.pointer (some ⟨q + 1 + 1, 0, none⟩), .pointer (some ⟨q, 0, none⟩)])] 99) (Obj.cells (chC z5) 96)
  have HV3 := Lib.hid hV3
  have N0 : Hid (ChBlk ((w2.alloc (Obj.cells #[(.func (.func 105) #[] #[.pointer (some ⟨q + 1 + 1, 0, none⟩), .pointer (some ⟨q, 0, none⟩)])] 99)).alloc (Obj.cells (chC z5) 96)) (w2.heap.size + 1) z5) := by show ChBlk _ _ _; rw [hV3]; exact p2
  have X0 : Hid (ChBlk (w2.alloc (Obj.cells #[(.func (.func 105) #[] #[.pointer (some ⟨q + 1 + 1, 0, none⟩), .pointer (some ⟨q, 0, none⟩)])] 99)) (w.heap.size + 1) x) := J2.out.below ((Below.refl _ _).alloc (Nat.le_refl _) _) J2.out.lt
  have b4 : Below w2.heap.size w2 (V3.setRow (w2.heap.size + 1) (chC x)) := below_setRow hb3 (by omega) _
  have M1 := Lib.hid (J1.out.below b4 J1.out.lt)
  have M3 := Lib.hid (J3.out.below b4 J3.out.lt)
  have MB := Lib.hid (JB.out.trans (b4.mono JB.out.size))
  have MP := Lib.hid (JP.out.below b4)
  have MF : Hid (PFB (q + 1 + 1) q w2.heap.size (V3.setRow (w2.heap.size + 1) (chC x))) := (setRow_other _ _ _ _ (by omega)).trans p1
  have p2' : ChBlk V3 (w2.heap.size + 1) z5 := p2
  have MX : Hid (ChBlk (V3.setRow (w2.heap.size + 1) (chC x)) (w2.heap.size + 1) x) := p2'.put x
  have hq2 : q + 1 + 1 < w2.heap.size := lt_of_block JP.out.ck
  have hzs : w.heap.size + 1 + 1 + 1 ≤ w2.heap.size := by have := HS.out; omega
  clear hV3 p1 p2 p2' hb3 b4
  go_wp2_with (first
    | (refine ch_loadw (by rfl) (.tmp 3) rfl (w.heap.size + 1) rfl x X0.out HX.out.len ?_)
    | (refine ch_store rfl (.tmp 6) (.tmp 10) rfl (w2.heap.size + 1) rfl x z5 rfl N0.out HX.out.len rfl rfl ?_; rw [HV3.out]; generalize V3.setRow (w2.heap.size + 1) (chC x) = V4 at *))
  clear X0 N0 HV3 J1 J2 J3 JB JP hs3
  go_loopg [7] 100 (fun g u V => ∃ y : List Int, Hid (cheapGo c ws g y = some r) ∧ Hid (At c ws y) ∧ Hid (∀ i, i < c.shs.length → z i ≤ y.getD i 0) ∧ Hid (LkBlk V w.heap.size c.tol (.slice sa c.shs.length sc) ev ws) ∧ Hid (ChBlk V (w.heap.size + 1 + 1) z5) ∧ Hid (ChBlk V (w2.heap.size + 1) y) ∧ Hid (PSt c (.slice sa c.shs.length sc) ev ws (q + 1) (q + 1 + 1) q V) ∧ Hid (PFB (q + 1 + 1) q w2.heap.size V) ∧ Hid (Below w.heap.size w V) ∧ (w2.heap.size + 2 ≤ V.heap.size))
  case atStart => exact ⟨x, HR, HX, HZX, M1, M3, MX, MP, MF, MB, by have := MX.out.lt; omega⟩
  case round =>
    clear M1 M3 MX MP MF MB
    obtain ⟨y, HGO, HAT, HLE, M1, M3, MX, MP, MF, MB, hsz⟩ := hrel
    cases gk with
    | zero => exact absurd HGO.out (by simp [cheapGo])
    | succ gg =>
      have HGO : Hid ((if nextC c ws y = y then some y else cheapGo c ws gg (nextC c ws y)) = some r) := HGO.out
      have HNS := Lib.hid (next_step c HV.out ws y z HAT.out.len HAT.out.ag HZ.out HZL.out HLE.out)
      obtain ⟨V, hV, v1, v2, hbV, hsV⟩ := al2 wr (Obj.cells (lkC c.tol (.slice sa c.shs.length sc) ev ws) 89) (Obj.cells (chC y) 96)
      have HBE := Lib.hid (bestCh_any c HV.out sa sc ev ws HW5.out (q + 1) (q + 1 + 1) q w2.heap.size wr.heap.size (wr.heap.size + 1) y HAT.out.len (HAT.out.bd HV.out) V (MP.out.below hbV) ((hbV.block _ (lt_of_block MF.out)).trans MF.out) v1 v2)
      have HVV := Lib.hid hV
      have R1 := Lib.hid (M1.out.below hbV M1.out.lt)
      have R3 := Lib.hid (M3.out.below hbV M3.out.lt)
      have RX := Lib.hid (MX.out.below hbV MX.out.lt)
      have RP := Lib.hid (MP.out.below hbV)
      have RF : Hid (PFB (q + 1 + 1) q w2.heap.size V) := (hbV.block _ (lt_of_block MF.out)).trans MF.out
      have RB := Lib.hid (MB.out.trans (hbV.mono MB.out.size))
      have hsV' : wr.heap.size ≤ V.heap.size := hbV.size
      have HLN : Hid ((nextC c ws y).length = 5 ∧ ∀ i, c.shs.length ≤ i → (nextC c ws y).getD i 0 = 0) := by
        rcases HNS.out with ⟨e, _⟩ | ⟨_, ⟨s, hs, _, e⟩, _⟩
        · rw [e]; exact ⟨HAT.out.len, HAT.out.out⟩
        · rw [e]
          refine ⟨by rw [lowBy_length]; exact HAT.out.len, fun i hi => ?_⟩
          rw [lowBy_get _ _ _ (by rw [HAT.out.len]; exact HV.out.n5), if_neg (by omega)]
          exact HAT.out.out i hi
      clear hV v1 v2 hbV hsV
      go_wp2_with (first
        | (refine lk_loadw (by rfl) (.tmp 2) rfl w.heap.size rfl c.tol (.slice sa c.shs.length sc) ev ws M1.out HW5.out ?_)
        | (refine ch_loadw (by rfl) (.tmp 6) rfl (w2.heap.size + 1) rfl y MX.out HAT.out.len ?_))
      refine (callsIn_wide.1 (below_in 9 _ _ _)).mono ?_
      rintro e w5 ⟨rfl, rfl⟩
      clear M1 M3 MX MP MF MB
      go_wp2_with fail
      rw [HVV.out]
      refine HBE.out.mono ?_
      rintro e w6 ⟨rfl, hbm, hmp⟩
      have S1 := Lib.hid (blk_bm hbm RP.out.map R1.out)
      have S3 := Lib.hid (blk_bm hbm RP.out.map R3.out)
      have SX := Lib.hid (blk_bm hbm RP.out.map RX.out)
      have SP := Lib.hid (RP.out.bm hbm hmp)
      have SF := Lib.hid (blk_bm hbm RP.out.map RF.out)
      have SB := Lib.hid (below_bm RB.out hbm (by have := HS.out; omega) RB.out.size)
      have hs6 : w2.heap.size + 2 ≤ w6.heap.size := by have := hbm.size; omega
      clear HBE R1 R3 RX RP RF RB hbm hmp HVV hsV'
      obtain ⟨nx, hnx⟩ : ∃ nx, nextC c ws y = nx := ⟨_, rfl⟩
      rw [hnx] at HGO HNS HLN ⊢
      clear hnx
      have hba : Below w6.heap.size w6 (w6.alloc (Obj.cells (chC z5) 96)) := (Below.refl _ _).alloc (Nat.le_refl _) _
      have N0 : Hid (ChBlk (w6.alloc (Obj.cells (chC z5) 96)) w6.heap.size z5) := heap_alloc_new w6 _
      have b7 : Below w6.heap.size w6 ((w6.alloc (Obj.cells (chC z5) 96)).setRow w6.heap.size (chC nx)) := below_setRow hba (Nat.le_refl _) _
      have T1 := Lib.hid (LkBlk.below S1.out b7 (lt_of_block S1.out))
      have T3 := Lib.hid (ChBlk.below S3.out b7 (lt_of_block S3.out))
      have TX := Lib.hid (ChBlk.below SX.out b7 (lt_of_block SX.out))
      have TP := Lib.hid (SP.out.below b7)
      have TF : Hid (PFB (q + 1 + 1) q w2.heap.size ((w6.alloc (Obj.cells (chC z5) 96)).setRow w6.heap.size (chC nx))) := (b7.block _ (lt_of_block SF.out)).trans SF.out
      have TB := Lib.hid (SB.out.trans (b7.mono SB.out.size))
      have TN : Hid (ChBlk ((w6.alloc (Obj.cells (chC z5) 96)).setRow w6.heap.size (chC nx)) w6.heap.size nx) := N0.out.put nx
      have hs7 : w2.heap.size + 2 ≤ ((w6.alloc (Obj.cells (chC z5) 96)).setRow w6.heap.size (chC nx)).heap.size := by have := b7.size; omega
      have hcmp := fun W' => ch_eql nx y HLN.out.1 HAT.out.len W'
      have hz := HZZ.out
      clear hba b7 S1 S3 SX SP SF SB
      by_cases hq : nx = y
      · have qn : decide (nx = y) = true := decide_eq_true hq
        rw [if_pos hq] at HGO
        have HEQ : Hid (y = r) := by have h := HGO.out; simp at h; exact h
        clear hq HNS
        go_wp2_with (first
          | (refine ch_store rfl (.tmp 7) (.tmp 15) rfl w6.heap.size rfl nx z5 rfl N0.out HLN.out.1 rfl rfl ?_; generalize hWS : (w6.alloc (Obj.cells (chC z5) 96)).setRow w6.heap.size (chC nx) = W7 at *; clear hWS)
          | (refine ch_loadw (by rfl) (.tmp 7) rfl w6.heap.size rfl nx TN.out HLN.out.1 ?_)
          | (refine ch_loadw (by rfl) (.tmp 6) rfl (w2.heap.size + 1) rfl y TX.out HAT.out.len ?_)
          | (refine ch_store rfl (.tmp 4) (.tmp 19) rfl (w.heap.size + 1 + 1) rfl y z5 rfl T3.out HAT.out.len rfl rfl ?_))
        exact bodyPost_ret (ch_result rfl _ _ (w.heap.size + 1 + 1) y rfl (T3.out.put _) HAT.out.len) rfl ⟨by rw [HEQ.out], below_setRow TB.out (by omega) _⟩
      · have qn : decide (nx = y) = false := decide_eq_false hq
        rw [if_neg hq] at HGO
        have HNA : Hid (At c ws nx ∧ ∀ i, i < c.shs.length → z i ≤ nx.getD i 0) := by
          rcases HNS.out with ⟨e, _⟩ | ⟨_, _, ha, hl⟩
          · exact absurd e hq
          · exact ⟨⟨HLN.out.1, ha, HLN.out.2⟩, hl⟩
        clear hq HNS
        go_wp2_with (first
          | (refine ch_store rfl (.tmp 7) (.tmp 15) rfl w6.heap.size rfl nx z5 rfl N0.out HLN.out.1 rfl rfl ?_; generalize hWS : (w6.alloc (Obj.cells (chC z5) 96)).setRow w6.heap.size (chC nx) = W7 at *; clear hWS)
          | (refine ch_loadw (by rfl) (.tmp 7) rfl w6.heap.size rfl nx TN.out HLN.out.1 ?_)
          | (refine ch_loadw (by rfl) (.tmp 6) rfl (w2.heap.size + 1) rfl y TX.out HAT.out.len ?_)
          | (refine ch_store rfl (.tmp 6) (.tmp 20) rfl (w2.heap.size + 1) rfl nx y rfl TX.out HLN.out.1 HAT.out.len rfl ?_))
        have hB8 := below_setRow TB.out (show w.heap.size ≤ w2.heap.size + 1 by omega) (chC nx)
        go_roundg gg
        case measure => omega
        case rel =>
          exact ⟨nx, HGO, Lib.hid HNA.out.1, Lib.hid HNA.out.2, (setRow_other _ _ _ _ (by omega)).trans T1.out, (setRow_other _ _ _ _ (by omega)).trans T3.out, TX.out.put nx, ⟨(setRow_other _ _ _ _ (by omega)).trans TP.out.ck, (setRow_other _ _ _ _ (by omega)).trans TP.out.cl, HC0.out.below hB8, TP.out.map.keep (setRow_other _ _ _ _ (by omega))⟩, (setRow_other _ _ _ _ (by omega)).trans TF.out, below_setRow TB.out (by omega) _, by simpa [World.setRow] using hs7⟩
end Go.Proofs.Ytojdocomkhihoaa
