/- Package scale: withEach. -/
import Derived.Test.YthflbbjilebhlaaUn
set_option linter.unusedSimpArgs false
set_option linter.unusedVariables false
namespace Go.Proofs.Ythflbbjilebhlaa
open Go Go.RowKit Go.Shelf Sc

/-- What withEach answers. -/
def EachP (c : Cse) (hv rv : Value) (l : List Scl) (w : World) (e : Ending) (w' : World) : Prop :=
  (scsE l = 0 → ∃ v, e = .returned (.tuple #[v, .int .i64 0]) ∧ MdsAt w' v c hv rv l) ∧ (scsE l ≠ 0 → e = .returned (.tuple #[.slice none 0 0, .int .i64 (scsE l)])) ∧ Below w.heap.size w w'
set_option maxRecDepth 100000 in
set_option maxHeartbeats 8000000 in
theorem withEach_any (c : Cse) (hv rv sv : Value) (l : List Scl) (w : World) (hC : CseAt w c hv rv) (hV : Valid c) (hS : PairsAt w sv l) (h6 : l.length ≤ 6) :
    Calls Try.prog 64 #[.agg (lkV c hv rv), sv] w (EachP c hv rv l w) := by
  obtain ⟨ha, hn, hc, rfl⟩ : ∃ a n c, hv = .slice a n c := by obtain ⟨_, a, cap, h, _⟩ := hC.hs; exact ⟨_, _, _, h⟩
  obtain ⟨ra, rn, rc, rfl⟩ : ∃ a n c, rv = .slice a n c := by obtain ⟨_, a, cap, h, _⟩ := hC.rd; exact ⟨_, _, _, h⟩
  obtain ⟨ls, sa, sc, rfl, lsc, _⟩ := id hS
  obtain ⟨n, hln⟩ : ∃ n, l.length = n := ⟨_, rfl⟩
  rw [hln] at ls lsc hS h6 ⊢
  have HN := Lib.hid hln
  have HVV := Lib.hid hV
  obtain ⟨R, hR⟩ : ∃ R, scsE l = R := ⟨_, rfl⟩
  have HR0 : Hid (scsE (l.drop 0) = R) := hR
  obtain ⟨kind, hkind⟩ : ∃ x, c.kind = x := ⟨_, rfl⟩
  obtain ⟨base, hbase⟩ : ∃ x, c.base = x := ⟨_, rfl⟩
  obtain ⟨most, hmost⟩ : ∃ x, c.most = x := ⟨_, rfl⟩
  obtain ⟨F, hF⟩ : ∃ F, rnF c.kind = F := ⟨_, rfl⟩
  have HLK : Hid (lkV c (.slice ha hn hc) (.slice ra rn rc) = #[.int .i64 kind, .int .i64 base, .int .i64 most, .slice ha hn hc, .slice ra rn rc, .int .i64 kind, .func (.func F) #[] #[]]) := by show _ = _; unfold lkV lkC; rw [hF, hkind, hbase, hmost]
  unfold EachP
  rw [hR, HLK.out]
  have hba : Below w.heap.size w (w.alloc (Obj.cells #[.int .i64 kind, .int .i64 base, .int .i64 most, .slice ha hn hc, .slice ra rn rc, .int .i64 kind, .func (.func F) #[] #[]] 95)) := by go_grown
  have HB := Lib.hid hba
  have HG := Lib.hid (heap_alloc_new w (Obj.cells #[.int .i64 kind, .int .i64 base, .int .i64 most, .slice ha hn hc, .slice ra rn rc, .int .i64 kind, .func (.func F) #[] #[]] 95))
  have HS := Lib.hid (hS.below hba)
  have HC := Lib.hid (hC.below hba)
  have nI : (n : Int) ≤ 6 := by omega
  clear hC hV hS hln hR hkind hbase hmost hF hba
  go_enter Try.func64, Try.ntmps64
  go_wp2_with fail
  generalize w.alloc (Obj.cells #[.int .i64 kind, .int .i64 base, .int .i64 most, .slice ha hn hc, .slice ra rn rc, .int .i64 kind, .func (.func F) #[] #[]] 95) = w0 at *
  go_loopg [6, 8, 9, 12] n (fun g v6 _ _ v wr => ∃ (k : Nat) (a6 : Option Addr) (c6 : Nat), g + k = n ∧ v = .int .i64 k ∧ v6 = .slice a6 k c6 ∧ Hid (wr.ownsRow w0.heap.size 99 17 (.slice a6 k c6) k (mdsL c (.slice ha hn hc) (.slice ra rn rc) (l.take k))) ∧ Hid (scsE (l.drop k) = R) ∧ Hid (∀ s, s ∈ l.take k → sclE s = 0) ∧ Hid (Below w0.heap.size w0 wr))
  case atStart => exact ⟨0, none, 0, by omega, rfl, rfl, World.ownsRow_nil .., HR0, fun s hs => (by simp at hs), Below.refl _ _⟩
  case round =>
    obtain ⟨k, a6, c6, hk, rfl, rfl, HO, HR, HZ, HL⟩ := hrel
    have H1 := Lib.hid ((HL.out.block _ (lt_of_block HG.out)).trans HG.out)
    have S1 := Lib.hid (HS.out.below HL.out)
    have C1 := Lib.hid (HC.out.below HL.out)
    by_cases hkn : k < n
    · have kI : (k : Int) < (n : Int) := by omega
      have hk' : k < l.length := by rw [HN.out]; exact hkn
      obtain ⟨b, o, rfl, d0, d1⟩ := S1.out.get hk'
      have HD := Lib.hid (scsE_drop l k hk')
      have htk : l.take (k + 1) = l.take k ++ [l[k]] := List.take_succ_eq_append_getElem hk'
      have HTK := Lib.hid htk
      obtain ⟨s, hs⟩ : ∃ s, l[k] = s := ⟨_, rfl⟩
      rw [hs] at d0 d1 HD HTK
      obtain ⟨u, d⟩ := s
      simp only at d0 d1
      have hsl := World.block_lt_of_cell? wr ⟨b, o + k * 2, none⟩ d0
      have hba : Below wr.heap.size wr (wr.alloc (Obj.cells #[.int .i64 u, .int .i64 d] 27)) := by go_grown
      have h1 := scaleFault_any (u, d) (wr.alloc (Obj.cells #[.int .i64 u, .int .i64 d] 27))
      obtain ⟨er, her⟩ : ∃ er, sclE (u, d) = er := ⟨_, rfl⟩
      rw [her] at h1 HD
      dsimp only at h1
      have HCL := Lib.hid h1
      have HER := Lib.hid her
      have Z1 := Lib.hid (heap_alloc_new wr (Obj.cells #[.int .i64 u, .int .i64 d] 27))
      have HBA := Lib.hid hba
      clear hk' htk hs h1 her hba
      go_wp2_with fail
      refine HCL.out.mono ?_
      rintro e w2 ⟨rfl, hb⟩
      have hb2 := HBA.out.trans (hb.mono HBA.out.size)
      have B2 := Lib.hid hb2
      have L2 := Lib.hid (HL.out.trans (hb2.mono HL.out.size))
      have Z2 := Lib.hid ((hb.block _ (lt_of_block Z1.out)).trans Z1.out)
      have G2 := Lib.hid ((hb2.block _ (lt_of_block H1.out)).trans H1.out)
      have O2 := Lib.hid (own_below HO.out hb2)
      have C2 := Lib.hid (C1.out.below hb2)
      clear hb hb2 HCL d0 d1 hsl HBA Z1 HO H1 C1
      by_cases he : er = 0
      · subst he
        rw [if_pos rfl] at HD
        have hz := sclE_zero HER.out
        simp only at hz
        have hcall := with_any c _ _ (u, d) w2 C2.out HVV.out ⟨hz.1, hz.2.1, hz.2.2.1, hz.2.2.2.1⟩
        rw [HLK.out] at hcall
        dsimp only at hcall
        have HCL := Lib.hid hcall
        have c0 := cellOf G2.out 0 _ rfl
        have c1 := cellOf G2.out 1 _ rfl
        have c2 := cellOf G2.out 2 _ rfl
        have c3 := cellOf G2.out 3 _ rfl
        have c4 := cellOf G2.out 4 _ rfl
        have c5 := cellOf G2.out 5 _ rfl
        have c6 := cellOf G2.out 6 _ rfl
        have cl := lt_of_block G2.out
        have e0 := cellOf Z2.out 0 _ rfl
        have e1 := cellOf Z2.out 1 _ rfl
        have el := lt_of_block Z2.out
        clear hcall hz
        go_wp2_with fail
        refine HCL.out.mono ?_
        rintro e w3 ⟨rfl, hb⟩
        have B3 := Lib.hid (B2.out.trans (hb.mono B2.out.size))
        have L3 := Lib.hid (L2.out.trans (hb.mono L2.out.size))
        have O3 := Lib.hid (own_below O2.out hb)
        have HCC := Lib.hid (mdW_size c (.slice ha hn hc) (.slice ra rn rc) (u, d))
        have HONE : Hid ((mdC (mdP c (.slice ha hn hc) (.slice ra rn rc) (u, d)) (cut8 c (u, d))).all (·.oneCell') = true) := md_one _ _ rfl
        obtain ⟨M, hM⟩ : ∃ M, mdC (mdP c (.slice ha hn hc) (.slice ra rn rc) (u, d)) (cut8 c (u, d)) = M := ⟨_, rfl⟩
        have HMM := Lib.hid hM
        rw [hM] at HCC HONE ⊢
        clear hb hM HCL c0 c1 c2 c3 c4 c5 c6 cl e0 e1 el O2 G2 Z2 C2
        have hsz3 : w0.heap.size ≤ w3.heap.size := L3.out.size
        have hba3 : Below w3.heap.size w3 (w3.alloc (Obj.cells M 99)) := by go_grown
        have hcM : ∀ j u, M.toList[j]? = some u → (w3.alloc (Obj.cells M 99)).cell? ⟨w3.heap.size, 0 + j, none⟩ = some u := fun j u hu => by
          rw [Nat.zero_add]
          exact cellOf (heap_alloc_new w3 (Obj.cells M 99)) j u (by simpa using hu)
        have hone : ∀ u, u ∈ M.toList → u.oneCell' = true := fun u hu => by
          have h := HONE.out
          rw [Array.all_eq_true_iff_forall_mem] at h
          exact h u (by simpa using hu)
        have HCM := Lib.hid hcM
        have HON := Lib.hid hone
        have HS3 := Lib.hid hsz3
        clear hcM hone
        go_wp2_with (first
          | (refine wpl_bs1 rfl 109 99 (.tmp 24) rfl _ 17 168 Try.underlying109 mdInfo (by decide) (by decide) M rfl HCC.out ?_)
          | (at_builtin; refine wpl_appS rfl _ _ 109 99 rfl Try.underlying109 _ 17 168 mdInfo (by simp [Value.cells, md_size, pf0, pf, z8]) (by decide) w0.heap.size k _ _ w3.heap.size 0 1 M.toList rfl rfl (own_below O3.out hba3) (by rw [Array.length_toList, HCC.out]) HCM.out HON.out (by have := hba3.size; omega) (by unfold maxLen; omega) (by omega) ?_))
        intro v' w4 hown4 hg4 _
        have B4 : Hid (Below w0.heap.size w0 w4) := (L3.out.trans (hba3.mono HS3.out)).grown hg4 (Nat.le_trans HS3.out hba3.size) (fun g hg => (O3.out.lt g hg).1)
        obtain ⟨va, vc, rfl⟩ := own_slice hown4
        have O4 : Hid (w4.ownsRow w0.heap.size 99 17 (.slice va (k + 1) vc) (k + 1) (mdsL c (.slice ha hn hc) (.slice ra rn rc) (l.take (k + 1)))) := by
          show World.ownsRow ..
          rw [HTK.out]
          unfold mdsL
          rw [List.flatMap_append]
          have e : ([(u, d)] : List Scl).flatMap (fun s => (mdC (mdP c (.slice ha hn hc) (.slice ra rn rc) s) (cut8 c s)).toList) = M.toList := by
            rw [List.flatMap_cons, List.flatMap_nil, List.append_nil, HMM.out]
          rw [e]
          exact hown4
        have R4 : Hid (scsE (l.drop (k + 1)) = R) := HD.out.symm.trans HR.out
        have Z4 : Hid (∀ s, s ∈ l.take (k + 1) → sclE s = 0) := fun s hs => by
          rw [HTK.out] at hs
          rcases List.mem_append.1 hs with h | h
          · exact HZ.out s h
          · simp at h; subst h; exact HER.out
        clear hown4 hg4 hba3 HCM HON
        go_wp2_with fail
        go_roundg (gk - 1)
        case measure => omega
        case rel => exact ⟨k + 1, va, vc, by omega, by go_num, rfl, O4, R4, Z4, B4⟩
      · have te : (er != 0) = true := by simp [he]
        rw [if_neg he] at HD
        obtain rfl : er = R := HD.out.symm.trans HR.out
        go_wp2_with fail
        refine bodyPost_ret (results_tmp2 rfl _ _ _) rfl ?_
        exact ⟨fun h => absurd h he, fun _ => rfl, HB.out.trans (L2.out.mono HB.out.size)⟩
    · obtain rfl : k = n := by omega
      have e : l.drop k = [] := List.drop_of_length_le (by have := HN.out; omega)
      have e2 : l.take k = l := List.take_of_length_le (by have := HN.out; omega)
      rw [e] at HR
      rw [e2] at HO
      obtain rfl : 0 = R := HR.out
      have HMD : Hid (MdsAt wr (.slice a6 k c6) c (.slice ha hn hc) (.slice ra rn rc) l) := by
        have h := HO.out
        have hN := HN.out
        refine mdsAt_own (base := w0.heap.size) ?_
        rw [hN]
        exact h
      have kI : ¬ (k : Int) < (k : Int) := by omega
      clear hkn hk e e2 HO
      go_wp2_with fail
      refine bodyPost_ret (results_tmp2 rfl _ _ _) rfl ?_
      exact ⟨⟨_, rfl, HMD.out⟩, HB.out.trans (HL.out.mono HB.out.size)⟩
end Go.Proofs.Ythflbbjilebhlaa
