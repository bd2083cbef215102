/- Package edge: the places next to changes, as a function that is ranged over. -/
import Derived.Test.YtojdocomkhihoaaHa1
import Derived.Test.YtojdocomkhihoaaGc1
import Derived.Test.YtojdocomkhihoaaRgo
import Derived.Test.YtojdocomkhihoaaFh1
set_option linter.unusedSimpArgs false
set_option linter.unusedVariables false
namespace Go.Proofs.Ytojdocomkhihoaa
open Go Go.RowKit Go.Shelf Ed
attribute [local go_sem] Oper.semAt_some

/-- New memory does not touch what abides it. -/
theorem own_kept {β : Type} {B : Nat} {I : β → World → Prop} (h : OwnFrom B I) {s : β} {W W' : World} (hs : I s W) (hb : Below W.heap.size W W') : I s W' :=
  h s W W' none hs ⟨hb.os, hb.tape, hb.output, hb.size, fun k hk _ => hb.block k hk⟩ (fun r e => by cases e)
theorem keptO_of_below {B : Nat} {kept : Nat → Prop} {W W' : World} (h : Below W.heap.size W W') : KeptO B kept W W' := ⟨h.size, fun k hk _ => h.block k hk⟩
/-- A round where no depth is asked, within another round. -/
theorem roundIn_any {m m' l' : Nat} {P : Program} {l : Nat} {f : FuncId} {tmps : Array Value} {assign body : Code} {w : World} {R : Ending → World → Prop} (h : RoundIn Fence.wide m P l f tmps assign body w R) : RoundIn (Fence.wide.inRound l') m' P l f tmps assign body w R :=
  ⟨h.1, fun c cs _ => h.2 c cs (fun d hd => (by cases hd))⟩
/-- Changes next to others. -/
abbrev Lw (n : Nat) (x : List Int) := { y : List Int // ∃ s, s < 2 ^ n ∧ y = lowBy s x n }
def encL {n : Nat} {x : List Int} (y : Lw n x) : Array Value := #[.agg (chC y.1)]
def toLw {n : Nat} (x : List Int) (s : Sb n) : Lw n x := ⟨lowBy s.1 x n, s.1, s.2, rfl⟩
set_option maxRecDepth 100000 in
theorem below_in (m : Nat) (L : Array Value) (x : List Int) (w : World) :
    CallsIn Fence.wide m Try.prog 91 #[.agg L, .agg (chC x)] w fun e w' => e = .returned (.func (.func 106) #[] #[.pointer (some ⟨w.heap.size, 0, none⟩), .pointer (some ⟨w.heap.size + 1, 0, none⟩)]) ∧ (w.alloc (.cells L 89)).alloc (.cells (chC x) 96) = w' := by
  refine callsIn_of_wp Try.func91 rfl trivial ?_ rfl
  simp only [Try.ntmps91, List.size_toArray, List.length_cons, List.length_nil, Nat.reduceAdd, Nat.reduceSub, Array.replicate_succ, Array.replicate_zero, List.push_toArray, List.append_toArray, List.nil_append, List.cons_append]
  gi_wp2
  go_ret
  exact ⟨rfl, rfl⟩
/-- The first so many numbers of a set lowered. -/
theorem lowBy_bd (s : Nat) (x : List Int) (n : Nat) (hn : n ≤ x.length) (h : ∀ i, -1000 ≤ x.getD i 0 ∧ x.getD i 0 ≤ 1000) (i : Nat) : -1001 ≤ (lowBy s x n).getD i 0 ∧ (lowBy s x n).getD i 0 ≤ 1000 := by
  have := h i
  rw [lowBy_get _ _ _ hn]
  split <;> omega
set_option maxRecDepth 100000 in
set_option maxHeartbeats 4000000 in
theorem below1_O (bl bx : Nat) (tol : Int) (sa : Option Addr) (n sc : Nat) (ev : Value) (ws x : List Int) (n5 : n ≤ 5) (hx : x.length = 5) (hbd : ∀ i, -1000 ≤ x.getD i 0 ∧ x.getD i 0 ≤ 1000) (w : World)
    (hL : LkBlk w bl tol (.slice sa n sc) ev ws) (hX : ChBlk w bx x) :
    SeqO Try.prog 106 #[.pointer (some ⟨bl, 0, none⟩), .pointer (some ⟨bx, 0, none⟩)] (encL (n := n) (x := x)) (fun k => k = bl ∨ k = bx) (fun ys => ys.map (·.1) = belowL n x) 257 w := by
  intro m l J W hW hJ hY h0
  have HY := Lib.hid hY
  have HJ := Lib.hid hJ
  have HL := Lib.hid (hL.below hW hL.lt)
  have HX := Lib.hid (hX.below hW hX.lt)
  have HXL := Lib.hid hx
  have HBD := Lib.hid hbd
  have H0 := Lib.hid h0
  have c1 := HL.out.c1
  have cl := HL.out.lt
  have nI : (n : Int) ≤ 5 := by omega
  clear hW hJ hY h0 hL hX hx hbd
  refine callsIn_wide.2 ((callsIn_wide (n := 9)).1 ?_)
  refine callsIn_of_wp_marks Try.func106 rfl trivial ?_ rfl
  simp only [Try.ntmps106, List.size_toArray, List.length_cons, List.length_nil, Nat.reduceAdd, Nat.reduceSub, Array.replicate_succ, Array.replicate_zero, List.push_toArray, List.append_toArray, List.nil_append, List.cons_append]
  gi_wp2_with fail
  refine ⟨trivial, ?_⟩
  refine (sets_in 8 n _).mono ?_
  rintro e w3 ⟨rfl, rfl⟩
  obtain ⟨W3, hW3, hQ1, hQ2, hB3, hs3⟩ := al2 W (Obj.cells #[.func (.yield l) #[] #[]] 129) (Obj.cells #[.int .i64 n] 3)
  simp only [World.size_alloc]
  rw [hW3]
  have HL3 := Lib.hid (HL.out.below hB3 HL.out.lt)
  have HX3 := Lib.hid (HX.out.below hB3 HX.out.lt)
  have H03 : Hid (J [] W3) := own_kept HJ.out H0.out hB3
  have HQ1 := Lib.hid hQ1
  have HQ2 := Lib.hid hQ2
  have HS3 := Lib.hid hs3
  clear c1 cl hW3 hQ1 hQ2 hB3 hs3
  gi_wp2_with fail
  refine wpIn_rangeFunc_ownH rfl (by omega) (gf := 108) (lb := #[.pointer (some ⟨W.heap.size + 1, 0, none⟩)]) rfl trivial (enters_of Try.func108 (by kernel_rfl) rfl)
    (sets_stops 8 (by omega) (W.heap.size + 1) n (by omega) W3 HQ2.out) (fun h k => h.trans k) (fun V l o o' hl _ _ _ => KB.putObj V l o' (by have := HS3.out; omega)) (Below.refl _ _) (fun _ => rfl)
    (fun pre V => J (pre.map (toLw x)) V ∧ V.heap[W.heap.size]? = some (.cells #[.func (.yield l) #[] #[]] 129 (0, 0)) ∧ LkBlk V bl tol (.slice sa n sc) ev ws ∧ ChBlk V bx x ∧ W3.heap.size ≤ V.heap.size)
    (fun _ _ _ => False)
    (OwnFrom.and (fun s A B row hs hg hr => HJ.out.up (by have := HS3.out; omega) (s.map (toLw x)) A B row hs hg hr) (OwnFrom.and (Own.from (blk_own _ (fun _ => #[.func (.yield l) #[] #[]]) _ _) _) (OwnFrom.and (Own.from (lkBlk_own _ _ _ _ _) _) (OwnFrom.and (Own.from (chBlk_own _ (fun _ => x)) _) (fun s A B row hs hg hr => Nat.le_trans hs hg.size)))))
    (fun _ _ _ _ _ hs _ _ => hs)
    ⟨H03.out, HQ1.out, HL3.out, HX3.out, Nat.le_refl _⟩
    (fun s a' _ => a' = { tmps := #[.func (.yield l) #[] #[], .pointer (some ⟨bl, 0, none⟩), .pointer (some ⟨bx, 0, none⟩), .pointer (some ⟨W.heap.size, 0, none⟩), .int .u64 (s.1 : Int), undef, undef, .pointer (some ⟨bl, 0, none⟩), .pointer (some ⟨bl, 1, none⟩), .slice sa n sc, .int .i64 n, .func (.func 108) #[] #[.pointer (some ⟨W.heap.size + 1, 0, none⟩)], .int .u64 (s.1 : Int), undef, undef, undef, undef, undef, undef, undef, undef, undef, undef, undef, undef, undef, undef, undef, undef, undef, undef, undef, undef, undef], defers := [] })
    ?hAx ?assign ?body ?done ?stop
  case hAx => exact fun x a' _ X Y row h _ _ => h
  case assign =>
    rintro l' pre s V K hI hK
    unfold encS
    gi_wp2
    exact hK _ _ (KeepsFrom.refl _ _) (KB.refl _ _) hI rfl
  case body =>
    rintro l' pre s a' V hl ⟨rr, hr⟩ ⟨iJ, iY, iL, iX, iS⟩ rfl hlt
    have HIJ := Lib.hid iJ
    have HIY := Lib.hid iY
    have HIL := Lib.hid iL
    have HIX := Lib.hid iX
    have c1 := iL.c1
    have cl := iL.lt
    have cy := cellOf iY 0 _ rfl
    have hz := (zero_of_info chZero).1
    have hba : Below V.heap.size V (V.alloc (Obj.cells (chC z5) 96)) := (Below.refl _ _).alloc (Nat.le_refl _) _
    have N0 : Hid (ChBlk (V.alloc (Obj.cells (chC z5) 96)) V.heap.size z5) := heap_alloc_new V _
    have WS : Hid (Below V.heap.size V ((V.alloc (Obj.cells (chC z5) 96)).setRow V.heap.size (chC x))) := below_setRow hba (Nat.le_refl _) _
    have M3 : Hid (ChBlk ((V.alloc (Obj.cells (chC z5) 96)).setRow V.heap.size (chC x)) V.heap.size x) := N0.out.put x
    have M1 := Lib.hid (HIL.out.below WS.out HIL.out.lt)
    have hsn : s.1 < 256 := Nat.lt_of_lt_of_le s.2 (pow_le8 (by omega)).2
    have HPL : Hid (pre.length < 257) := hlt
    clear iJ iY iL iX hba hlt
    simp only
    gi_wp2_with (first
      | (refine chIn_load rfl (.tmp 2) rfl bx rfl x HIX.out HXL.out ?_)
      | (refine chIn_store rfl (.tmp 5) (.tmp 13) rfl V.heap.size rfl x z5 rfl N0.out HXL.out rfl rfl ?_; generalize hWS : (V.alloc (Obj.cells (chC z5) 96)).setRow V.heap.size (chC x) = W5 at *; clear hWS; have c1 := M1.out.c1; have cl := M1.out.lt))
    clear N0 hz
    try clear c1
    try clear cl
    try clear cy
    gi_loopw [18] (fun i wr => ∃ k : Nat, k ≤ n ∧ i = .int .i64 (k : Int) ∧ Hid (ChBlk wr V.heap.size (lowBy s.1 x k)) ∧ Hid (Below V.heap.size V wr)) (fun i _ => n - (intOf i).toNat)
    case atStart => exact ⟨0, by omega, rfl, M3, WS⟩
    case round =>
      clear M3 WS M1
      obtain ⟨k, hk, rfl, M3, WS⟩ := hrel
      by_cases hlt : k < n
      · have kI : (k : Int) < (n : Int) := by omega
        have k5 : (k : Int) < 5 := by omega
        have k5n : k < 5 := by omega
        have HLT := Lib.hid hlt
        have HHA := Lib.hid (has_any s.1 k (by omega) (by omega) wr)
        clear hlt
        gi_wp2_with fail
        refine ⟨trivial, ?_⟩
        refine (callsIn_wide.2 HHA.out).mono ?_
        rintro e w6 ⟨rfl, rfl⟩
        clear HHA
        have HLW : Hid (lowBy s.1 x (k + 1) = if s.1.testBit k = true then (lowBy s.1 x k).set k ((lowBy s.1 x k).getD k 0 - 1) else lowBy s.1 x k) := rfl
        cases hb : s.1.testBit k
        · rw [hb, if_neg (by simp)] at HLW
          have M5 : Hid (ChBlk wr V.heap.size (lowBy s.1 x (k + 1))) := by rw [HLW.out]; exact M3
          clear M3 HLW hb
          gi_wp2_with fail
          go_roundw
          case rel => exact ⟨k + 1, by have := HLT.out; omega, by go_num, M5, WS⟩
          case measure => simp [intOf]; have := HLT.out; omega
        · rw [hb, if_pos rfl] at HLW
          have hll : (lowBy s.1 x k).length = 5 := by rw [lowBy_length]; exact HXL.out
          have y0 := M3.out.cell k (by rw [hll]; omega)
          have yb := lowBy_bd s.1 x k (by rw [HXL.out]; omega) HBD.out k
          have M5 := Lib.hid (M3.out.set k ((lowBy s.1 x k).getD k 0 - 1))
          rw [← HLW.out] at M5
          generalize (lowBy s.1 x k).getD k 0 = y at *
          have f0 := frozen_of_row _ _ k _ _ M3.out
          have gl := M3.out.lt
          have WS5 := Lib.hid (WS.out.setCell (p := ⟨V.heap.size, k, none⟩) (Nat.le_refl _) (.int .i64 (y - 1)))
          have wy : IntKind.i64.wrap (y - 1) = y - 1 := by rw [IntKind.wrap_i64] <;> omega
          clear M3 HLW hb hll WS
          gi_wp2_with fail
          go_roundw
          case rel => exact ⟨k + 1, by have := HLT.out; omega, by go_num, M5, WS5⟩
          case measure => simp [intOf]; have := HLT.out; omega
      · obtain rfl : k = n := by omega
        have kI : ¬ (k : Int) < (k : Int) := by omega
        have HYL : Hid ((lowBy s.1 x k).length = 5) := by show _ = _; rw [lowBy_length]; exact HXL.out
        have hJV : J (pre.map (toLw x)) wr := own_kept HJ.out HIJ.out WS.out
        have hsz := WS.out.size
        obtain ⟨fn, tmps, assign, body, hy, hR⟩ := HY.out 99 (pre.map (toLw x)) (toLw x s) wr hJV (by rw [List.length_map]; exact HPL.out) (by have := HS3.out; omega)
        unfold encL toLw at hy
        dsimp only at hy
        have HR := Lib.hid hR
        have HYB := Lib.hid ((WS.out.block _ (lt_of_block HIY.out)).trans HIY.out)
        have cy := cellOf HYB.out 0 _ rfl
        have hyl := lt_of_block HYB.out
        clear hR hlt hk hJV hsz
        gi_wp2_with (refine chIn_load rfl (.tmp 5) rfl V.heap.size rfl (lowBy s.1 x k) M3.out HYL.out ?_)
        refine (roundIn_any HR.out).mono ?_
        rintro e W6 ⟨rfl, hJ6, hK6⟩
        have hKK : KeptO W.heap.size (fun k => k = bl ∨ k = bx) V W6 := (keptO_of_below WS.out).trans hK6
        have HKK := Lib.hid hKK
        have HJ6 := Lib.hid hJ6
        clear hJ6 hK6 hKK hy HR cy hyl
        gi_wp2_with fail
        have hVs := HS3.out
        have h1 := lt_of_block HIY.out
        refine ⟨⟨HKK.out.size, fun q o hq ho _ => (HKK.out.same q (lt_of_block ho) (.inl (by omega))).trans ho⟩, fun o ho => (HKK.out.same _ (lt_of_block ho) (.inl (by omega))).trans ho, ?_, (HKK.out.same _ h1 (.inl (Nat.le_refl _))).trans HIY.out, (HKK.out.same _ HIL.out.lt (.inr (.inl rfl))).trans HIL.out, (HKK.out.same _ HIX.out.lt (.inr (.inr rfl))).trans HIX.out, by have := HKK.out.size; omega⟩
        rw [List.map_append]
        exact HJ6.out
  case done =>
    rintro D ys V hD hys ⟨iJ, _, _, _, iS⟩ hK
    have HIJ := Lib.hid iJ
    have HYS := Lib.hid hys
    clear iJ hys
    gi_wp2_with fail
    refine ⟨by simp, .inl ⟨_, _, rfl, run_takeDeferred hK, ?_⟩⟩
    refine ⟨_, results_none rfl _ _ _, ⟨_, rfl⟩, ys.map (toLw x), ?_, HJ.out.putObj _ HIJ.out (by have := HS3.out; omega) hK rfl⟩
    have h := congrArg (List.map fun s => lowBy s x n) HYS.out
    rw [List.map_map] at h
    rw [List.map_map]
    exact h
  case stop => exact fun D c pre W _ _ h _ => h.elim
end Go.Proofs.Ytojdocomkhihoaa
