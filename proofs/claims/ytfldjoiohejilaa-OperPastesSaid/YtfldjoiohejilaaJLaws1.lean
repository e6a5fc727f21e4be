/-
  Chapter 13's examples.
  The law's fit: lines that are few, and plain.
  The walks of OperCuts and OperTurns.
  Arguments opened: a region, a rune and how often, a register and where.
-/
import Derived.Test.YtfldjoiohejilaaKCut
import Derived.Test.YtfldjoiohejilaaKJoinC
import Derived.Test.YtfldjoiohejilaaKTake
import Derived.Test.YtfldjoiohejilaaKPasP
import Derived.Deep.RegionHeld3
import Derived.Test.YtfldjoiohejilaaJLeaf
import Derived.Test.YtfldjoiohejilaaKTurnD
namespace Go.Proofs.Ytfldjoiohejilaa.U
open Go.RowKit
set_option linter.unusedVariables false
set_option linter.unusedSimpArgs false
set_option maxRecDepth 100000

/-- a row that has just been laid -/
theorem rd_lit (w : World) (x : List Int) (n : Nat) (hn : x.length = n) (hm : n ≤ 1000) (hw : ∀ y ∈ x, (Lit.int .i32 y).wf = true) (cs : Array Value) (hc : cs = (ints x).toArray) :
    Rd .i32 (w.alloc (.cells cs 21)) (some ⟨w.heap.size, 0, none⟩) n n x := by
  subst hc
  have ho : (w.alloc (.cells (ints x).toArray 21)).ownsRow w.heap.size 21 1 (.slice (some ⟨w.heap.size, 0, none⟩) n n) n (ints x) :=
    own_of_row (heap_alloc_new w _) (Nat.le_refl _) ⟨rfl, by simp [ints, hn]⟩ (by unfold maxLen; omega)
  exact own_rd ho hw
/-- two lines laid -/
theorem rdl_litB (w : World) (x y : List Int) (n m : Nat) (hn : x.length = n) (hm : y.length = m) (hn9 : n ≤ 1000) (hm9 : m ≤ 1000) (hx : ∀ z ∈ x, (Lit.int .i32 z).wf = true) (hy : ∀ z ∈ y, (Lit.int .i32 z).wf = true) (cx cy : Array Value) (hcx : cx = (ints x).toArray) (hcy : cy = (ints y).toArray) :
    ∀ W, ((w.alloc (.cells cx 21)).alloc (.cells cy 21)).alloc (.cells #[.slice (some ⟨w.heap.size, 0, none⟩) n n, .slice (some ⟨w.heap.size + 1, 0, none⟩) m m] 35) = W →
    RdL (fun k => k < W.heap.size) W (some ⟨w.heap.size + 2, 0, none⟩) 2 2 [x, y] ∧ Below w.heap.size w W := by
  rintro W rfl
  have h1 := rd_lit w x n hn hn9 hx cx hcx
  have h2 := rd_lit (w.alloc (.cells cx 21)) y m hm hm9 hy cy hcy
  have e1 : (w.alloc (.cells cx 21)).heap.size = w.heap.size + 1 := by simp
  rw [e1] at h2
  have h3 := h1.below (bal (w.alloc (.cells cx 21)) (.cells cy 21))
  have h4 := (RowsAt.one h3 h3.inHeap).append (RowsAt.one h2 h2.inHeap)
  have h5 := rdl_new _ _ _ 2 rfl (by omega) h4 _ rfl
  have e2 : ((w.alloc (.cells cx 21)).alloc (.cells cy 21)).heap.size = w.heap.size + 2 := by simp
  rw [e2] at h5
  refine ⟨h5.mono (fun k hk => by simp; omega), ?_⟩
  exact ((bal w _).alloc (by simp) _).alloc (by simp; omega) _
theorem rdl_litA (w : World) (x : List Int) (n : Nat) (hn : x.length = n) (hn9 : n ≤ 1000) (hx : ∀ z ∈ x, (Lit.int .i32 z).wf = true) (cx : Array Value) (hcx : cx = (ints x).toArray) :
    ∀ W, (w.alloc (.cells cx 21)).alloc (.cells #[.slice (some ⟨w.heap.size, 0, none⟩) n n] 35) = W →
    RdL (fun k => k < W.heap.size) W (some ⟨w.heap.size + 1, 0, none⟩) 1 1 [x] ∧ Below w.heap.size w W := by
  rintro W rfl
  have h1 := rd_lit w x n hn hn9 hx cx hcx
  have h5 := rdl_new _ _ _ 1 rfl (by omega) (RowsAt.one h1 h1.inHeap) _ rfl
  have e2 : (w.alloc (.cells cx 21)).heap.size = w.heap.size + 1 := by simp
  rw [e2] at h5
  refine ⟨h5.mono (fun k hk => by simp; omega), ?_⟩
  exact (bal w _).alloc (by simp) _
theorem rdl_litS (w : World) (x y : List Int) (n m : Nat) (hn : x.length = n) (hm : y.length = m) (hn9 : n ≤ 1000) (hm9 : m ≤ 1000) (hx : ∀ z ∈ x, (Lit.int .i32 z).wf = true) (hy : ∀ z ∈ y, (Lit.int .i32 z).wf = true) (cx cy : Array Value) (hcx : cx = (ints x).toArray) (hcy : cy = (ints y).toArray) :
    ∀ W, ((w.alloc (.cells cy 21)).alloc (.cells cx 21)).alloc (.cells #[.slice (some ⟨w.heap.size + 1, 0, none⟩) n n, .slice (some ⟨w.heap.size, 0, none⟩) m m] 35) = W →
    RdL (fun k => k < W.heap.size) W (some ⟨w.heap.size + 2, 0, none⟩) 2 2 [x, y] ∧ Below w.heap.size w W := by
  rintro W rfl
  have h1 := rd_lit w y m hm hm9 hy cy hcy
  have h2 := rd_lit (w.alloc (.cells cy 21)) x n hn hn9 hx cx hcx
  have e1 : (w.alloc (.cells cy 21)).heap.size = w.heap.size + 1 := by simp
  rw [e1] at h2
  have h3 := h1.below (bal (w.alloc (.cells cy 21)) (.cells cx 21))
  have h4 := (RowsAt.one h2 h2.inHeap).append (RowsAt.one h3 h3.inHeap)
  have h5 := rdl_new _ _ _ 2 rfl (by omega) h4 _ rfl
  have e2 : ((w.alloc (.cells cy 21)).alloc (.cells cx 21)).heap.size = w.heap.size + 2 := by simp
  rw [e2] at h5
  refine ⟨h5.mono (fun k hk => by simp; omega), ?_⟩
  exact ((bal w _).alloc (by simp) _).alloc (by simp; omega) _
theorem cut13 : cutR ex13A ⟨⟨0, 1⟩, ⟨1, 0⟩, 0⟩ = ([[97, 100]], (0, 1), 0) := ex13_2
theorem size13A : sizeN (lens ex13A) ≤ 65536 := by decide
theorem plain13A : plainL ex13A := by unfold plainL; decide
/-- the first of lines that are told -/
theorem RdL.hd {F : Nat → Prop} {w : World} {a : Option Addr} {n c : Nat} {x : List Int} {L : List (List Int)} (h : RdL F w a n c (x :: L)) : ∃ b o xa xc, a = some ⟨b, o, none⟩ ∧ b < w.heap.size ∧ w.cell? ⟨b, o, none⟩ = some (.slice xa x.length xc) ∧ n = L.length + 1 := by
  have hl := h.len
  obtain ⟨b, o, rfl, hb, -, hr⟩ := h.at_ (by rw [← hl]; simp)
  obtain ⟨xa, xc, e1, -⟩ := hr 0 x rfl
  exact ⟨b, o, xa, xc, rfl, hb, e1, by rw [← hl]; simp⟩
theorem hbox {W W' : World} {g : Nat} {o : Obj} (h : W.heap[g]? = some o) (hb : Below W.heap.size W W') : W'.heap[g]? = some o := (hb.block _ (heap_lt h)).trans h
set_option maxHeartbeats 8000000 in
theorem awake_any (HP : PasteK 22) (w : World) : Calls Try.prog 17 #[] w fun e w' => e = .returned (.bool true) ∧ Below w.heap.size w w' := by
  have HPP := Lib.hid HP
  have HLIT := Lib.hid (rdl_litB w [97, 98] [99, 100] 2 2 rfl rfl (by omega) (by omega) (by decide) (by decide) #[.int .i32 97, .int .i32 98] #[.int .i32 99, .int .i32 100] rfl rfl)
  go_enter Try.func17, Try.ntmps17
  go_upto_region 2 with fail
  obtain ⟨w1, hw1⟩ : ∃ w1, ((w.alloc (.cells #[.int .i32 97, .int .i32 98] 21)).alloc (.cells #[.int .i32 99, .int .i32 100] 21)).alloc (.cells #[.slice (some ⟨w.heap.size, 0, none⟩) 2 2, .slice (some ⟨w.heap.size + 1, 0, none⟩) 2 2] 35) = w1 := ⟨_, rfl⟩
  have HW1 := Lib.hid hw1
  have HL1 := Lib.hid (HLIT.out _ hw1)
  clear hw1
  rw [HW1.out]
  obtain ⟨la, hla⟩ : ∃ la, w.heap.size + 2 = la := ⟨_, rfl⟩
  have HLA := Lib.hid hla
  clear hla
  rw [HLA.out]
  go_upto_region 3 with fail
  obtain ⟨w2, hw2⟩ : ∃ w2, w1.alloc (.cells #[.int .i64 0, .int .i64 1, .int .i64 1, .int .i64 0, .int .i64 0] 26) = w2 := ⟨_, rfl⟩
  obtain ⟨rb, hrb⟩ : ∃ rb, w1.heap.size = rb := ⟨_, rfl⟩
  have HS2 : Hid ((∃ F, RdL F w2 (some ⟨la, 0, none⟩) 2 2 ex13A) ∧ Below w.heap.size w w2 ∧ w2.heap[rb]? = some (.cells #[.int .i64 0, .int .i64 1, .int .i64 1, .int .i64 0, .int .i64 0] 26 (0, 0))) := by
    have h1 := HL1.out
    rw [HLA.out] at h1
    refine ⟨⟨_, h1.1.below (w' := w2) (by rw [← hw2]; exact bal _ _)⟩, by rw [← hw2]; exact btr h1.2 (bal _ _), ?_⟩
    rw [← hw2, ← hrb]; exact heap_alloc_new _ _
  rw [hw2, hrb]
  clear HL1 HW1 hw2 hrb HLIT HLA
  have hc2 : (∀ W, Below w2.heap.size w2 W → W.cell? ⟨rb, 0, none⟩ = some (.int .i64 0) ∧ W.cell? ⟨rb, 1, none⟩ = some (.int .i64 1) ∧ W.cell? ⟨rb, 2, none⟩ = some (.int .i64 1) ∧ W.cell? ⟨rb, 3, none⟩ = some (.int .i64 0) ∧ W.cell? ⟨rb, 4, none⟩ = some (.int .i64 0)) := fun W hW => ⟨cell_row (hbox HS2.out.2.2 hW) 0, cell_row (hbox HS2.out.2.2 hW) 1, cell_row (hbox HS2.out.2.2 hW) 2, cell_row (hbox HS2.out.2.2 hW) 3, cell_row (hbox HS2.out.2.2 hW) 4⟩
  have HC2 := Lib.hid hc2
  obtain ⟨r0, r1, r2, r3, r4⟩ := hc2 w2 (Below.refl _ _)
  clear hc2
  have HTK : Hid (Calls Try.prog 13 #[.slice (some ⟨la, 0, none⟩) 2 2, .agg #[.int .i64 0, .int .i64 1, .int .i64 1, .int .i64 0, .int .i64 0]] w2 fun e w' => ∃ ra rc, e = .returned (.tuple #[.agg #[.int .i64 0, .slice ra 2 rc], .int .i64 0]) ∧ Hid (FreshL w2.heap.size w' ra 2 rc [[98], [99]] ∧ Below w2.heap.size w2 w')) := by
    obtain ⟨F, hF⟩ := HS2.out.1
    refine (ktakeC F _ 2 2 ex13A ⟨⟨0, 1⟩, ⟨1, 0⟩, 0⟩ w2 hF (by have := size13A; omega) (by unfold i64r i64p i64b; decide)).mono ?_
    rintro e w' ⟨ra, m, rc, rfl, hf, hb⟩
    rw [ex13_1] at hf ⊢
    have hm := hf.len
    simp only [List.length_cons, List.length_nil] at hm
    subst hm
    exact ⟨ra, rc, rfl, hf, hb⟩
  go_upto_region 4 with (go_at_call 13; (with_reducible refine HTK.out.mono ?_); rintro e u1 ⟨ra, rc, rfl, HF1⟩)
  obtain ⟨w3, hw3⟩ : ∃ w3, u1.alloc (.cells #[.int .i64 0, .slice ra 2 rc] 30) = w3 := ⟨_, rfl⟩
  obtain ⟨gb, hgb⟩ : ∃ gb, u1.heap.size = gb := ⟨_, rfl⟩
  have HB3 : Hid (Below w2.heap.size w2 w3) := by rw [← hw3]; exact btr HF1.out.2 (bal _ _)
  have HS3 : Hid ((∃ F, RdL F w3 ra 2 rc [[98], [99]]) ∧ w3.heap[gb]? = some (.cells #[.int .i64 0, .slice ra 2 rc] 30 (0, 0))) := by
    refine ⟨⟨_, (HF1.out.1.rdl (by decide)).below (w' := w3) (by rw [← hw3]; exact bal _ _)⟩, ?_⟩
    rw [← hw3, ← hgb]; exact heap_alloc_new _ _
  rw [hw3, hgb]
  clear HF1 HTK hw3 hgb r0 r1 r2 r3 r4
  obtain ⟨r0, r1, r2, r3, r4⟩ := HC2.out w3 HB3.out
  have HCT : Hid (Calls Try.prog 18 #[.slice (some ⟨la, 0, none⟩) 2 2, .agg #[.int .i64 0, .int .i64 1, .int .i64 1, .int .i64 0, .int .i64 0]] w3 fun e w' => ∃ ca cc, e = .returned (.tuple #[.slice ca 1 cc, .agg #[.int .i64 0, .int .i64 1], .int .i64 0]) ∧ Hid (RdL (fun x => w3.heap.size ≤ x) w' ca 1 cc [[97, 100]] ∧ Below w3.heap.size w3 w')) := by
    obtain ⟨F, hF⟩ := HS2.out.1
    refine (kcutK F _ 2 2 ex13A ⟨⟨0, 1⟩, ⟨1, 0⟩, 0⟩ w3 (hF.below HB3.out) size13A (by unfold i64r i64p i64b; decide)).mono ?_
    rintro e w' ⟨ra, m, rc, rfl, hf, hb⟩
    rw [cut13] at hf ⊢
    have hm := hf.len
    simp only [List.length_cons, List.length_nil] at hm
    subst hm
    exact ⟨ra, rc, rfl, hf, hb⟩
  go_upto_region 5 with (go_at_call 18; (with_reducible refine HCT.out.mono ?_); rintro e u2 ⟨ca, cc, rfl, HF2⟩)
  obtain ⟨w4, hw4⟩ : ∃ w4, u2.alloc (.cells #[.int .i64 0, .int .i64 1] 24) = w4 := ⟨_, rfl⟩
  obtain ⟨pb, hpb⟩ : ∃ pb, u2.heap.size = pb := ⟨_, rfl⟩
  have HB4 : Hid (Below w3.heap.size w3 w4) := by rw [← hw4]; exact btr HF2.out.2 (bal _ _)
  have HS4 : Hid ((∃ F, RdL F w4 ca 1 cc [[97, 100]]) ∧ w4.heap[pb]? = some (.cells #[.int .i64 0, .int .i64 1] 24 (0, 0))) := by
    refine ⟨⟨_, HF2.out.1.below (w' := w4) (by rw [← hw4]; exact bal _ _)⟩, ?_⟩
    rw [← hw4, ← hpb]; exact heap_alloc_new _ _
  rw [hw4, hpb]
  clear HF2 HCT hw4 hpb r0 r1 r2 r3 r4
  have HPA : Hid (∀ W, W = (w4.alloc (.cells #[.int .i32 120, .int .i32 121] 21)).alloc (.cells #[.slice (some ⟨w4.heap.size, 0, none⟩) 2 2] 35) → Calls Try.prog 22 #[.slice (some ⟨la, 0, none⟩) 2 2, .agg #[.int .i64 0, .int .i64 0], .agg #[.int .i64 0, .slice (some ⟨w4.heap.size + 1, 0, none⟩) 1 1], .bool true, .int .i64 2] W fun e w' => ∃ qb qo qc, e = .returned (.tuple #[.slice (some ⟨qb, qo, none⟩) 2 qc, .agg #[.int .i64 0, .int .i64 4], .int .i64 0]) ∧ Hid ((∃ xa xc, qb < w'.heap.size ∧ w'.cell? ⟨qb, qo, none⟩ = some (.slice xa 6 xc)) ∧ Below w4.heap.size w4 w')) := by
    intro W hW
    obtain ⟨h1, h2⟩ := rdl_litA w4 [120, 121] 2 rfl (by omega) (by decide) #[.int .i32 120, .int .i32 121] rfl W hW.symm
    obtain ⟨F, hF⟩ := HS2.out.1
    refine (HPP.out F _ _ 2 2 ex13A _ 1 1 [[120, 121]] ⟨0, 0⟩ 0 true 2 W (hF.below (btr HB3.out (btr HB4.out h2))) size13A plain13A h1 (by decide) (by unfold i64p i64b; decide) (by unfold i64b; decide) (by unfold i64b; decide)).mono ?_
    rintro e w' ⟨qa, qn, qc, rfl, hf, hb⟩
    rw [ex13_3] at hf ⊢
    obtain ⟨qb, qo, xa, xc, rfl, hq, hc, hn⟩ := hf.hd
    obtain rfl : qn = 2 := hn
    exact ⟨qb, qo, qc, rfl, ⟨xa, xc, hq, hc⟩, btr h2 hb⟩
  go_upto_region 6 with (go_at_call 22; (with_reducible refine (HPA.out _ rfl).mono ?_); rintro e u3 ⟨qb, qo, qc, rfl, HF3⟩)
  obtain ⟨w5, hw5⟩ : ∃ w5, u3.alloc (.cells #[.int .i64 0, .int .i64 4] 24) = w5 := ⟨_, rfl⟩
  obtain ⟨ob, hob⟩ : ∃ ob, u3.heap.size = ob := ⟨_, rfl⟩
  have HB5 : Hid (Below w4.heap.size w4 w5) := by rw [← hw5]; exact btr HF3.out.2 (bal _ _)
  have HS5 : Hid ((∃ xa xc, qb < w5.heap.size ∧ w5.cell? ⟨qb, qo, none⟩ = some (.slice xa 6 xc)) ∧ w5.heap[ob]? = some (.cells #[.int .i64 0, .int .i64 4] 24 (0, 0))) := by
    obtain ⟨xa, xc, h1, h2⟩ := HF3.out.1
    refine ⟨⟨xa, xc, by rw [← hw5]; simp; omega, ?_⟩, ?_⟩
    · rw [← hw5]; exact ((bal u3 _).cell (p := ⟨qb, qo, none⟩) h1).trans h2
    · rw [← hw5, ← hob]; exact heap_alloc_new _ _
  rw [hw5, hob]
  clear HF3 HPA hw5 hob
  have HJO : Hid (∀ W, W = ((w5.alloc (.cells #[.int .i32 97] 21)).alloc (.cells #[.int .i32 98] 21)).alloc (.cells #[.slice (some ⟨w5.heap.size, 0, none⟩) 1 1, .slice (some ⟨w5.heap.size + 1, 0, none⟩) 1 1] 35) → Calls Try.prog 28 #[.slice (some ⟨w5.heap.size + 2, 0, none⟩) 2 2, .int .i64 0, .int .i64 2] W fun e w' => ∃ jb jo jc, e = .returned (.tuple #[.slice (some ⟨jb, jo, none⟩) 1 jc, .agg #[.int .i64 0, .int .i64 1], .int .i64 0]) ∧ ∃ w6 nb, w'.alloc (.cells #[.int .i64 0, .int .i64 1] 24) = w6 ∧ w'.heap.size = nb ∧ Hid ((∃ ya yc, jb < w6.heap.size ∧ w6.cell? ⟨jb, jo, none⟩ = some (.slice ya 3 yc)) ∧ w6.heap[nb]? = some (.cells #[.int .i64 0, .int .i64 1] 24 (0, 0)) ∧ Below w5.heap.size w5 w6)) := by
    intro W hW
    obtain ⟨h1, h2⟩ := rdl_litB w5 [97] [98] 1 1 rfl rfl (by omega) (by omega) (by decide) (by decide) #[.int .i32 97] #[.int .i32 98] rfl rfl W hW.symm
    refine (kjoinK _ _ 2 2 [[97], [98]] 0 2 W h1 (by decide) (by unfold i64b; decide) (by unfold i64b; decide)).mono ?_
    rintro e w' ⟨qa, qn, qc, rfl, hf, hb⟩
    rw [ex13_4] at hf ⊢
    obtain ⟨qb, qo, xa, xc, rfl, hq, hc, hn⟩ := hf.hd
    obtain rfl : qn = 1 := hn
    exact ⟨qb, qo, qc, rfl, _, _, rfl, rfl, ⟨xa, xc, by simp; omega, ((bal w' _).cell (p := ⟨qb, qo, none⟩) hq).trans hc⟩, heap_alloc_new _ _, btr (btr h2 hb) (bal _ _)⟩
  go_upto_region 7 with (first
    | (go_at_call 28; (with_reducible refine (HJO.out _ rfl).mono ?_); rintro e u4 ⟨jb, jo, jc, rfl, w6, nb, hw6, hnb, HF4⟩)
    | fail)
  (try rw [hw6])
  (try rw [hnb])
  clear hw6 hnb HJO
  obtain ⟨⟨ya, yc, hy1, hy2⟩, hN, hB6⟩ := HF4.out
  obtain ⟨⟨xa, xc, hx1, hx2⟩, hO⟩ := HS5.out
  have hb36 : Below w3.heap.size w3 w6 := btr HB4.out (btr HB5.out hB6)
  have hb46 : Below w4.heap.size w4 w6 := btr HB5.out hB6
  have KS : Hid (∀ W, Below w6.heap.size w6 W → (W.cell? ⟨gb, 1, none⟩ = some (.slice ra 2 rc) ∧ W.cell? ⟨pb, 0, none⟩ = some (.int .i64 0) ∧ W.cell? ⟨pb, 1, none⟩ = some (.int .i64 1) ∧ W.cell? ⟨qb, qo, none⟩ = some (.slice xa 6 xc) ∧ W.cell? ⟨ob, 0, none⟩ = some (.int .i64 0) ∧ W.cell? ⟨ob, 1, none⟩ = some (.int .i64 4) ∧ W.cell? ⟨jb, jo, none⟩ = some (.slice ya 3 yc) ∧ W.cell? ⟨nb, 0, none⟩ = some (.int .i64 0) ∧ W.cell? ⟨nb, 1, none⟩ = some (.int .i64 1))) := by
    intro W hW
    have e1 := hbox HS3.out.2 (btr hb36 hW)
    have e2 := hbox HS4.out.2 (btr hb46 hW)
    have e3 := hbox hO (btr hB6 hW)
    have e4 := hbox hN hW
    exact ⟨cell_row e1 1, cell_row e2 0, cell_row e2 1, ((btr hB6 hW).cell (p := ⟨qb, qo, none⟩) hx1).trans hx2, cell_row e3 0, cell_row e3 1, (hW.cell (p := ⟨jb, jo, none⟩) hy1).trans hy2, cell_row e4 0, cell_row e4 1⟩
  have HSA : Hid (∀ W v0 v1, (((w6.alloc (.cells #[.int .i32 98] 21)).alloc (.cells #[.int .i32 99] 21)).alloc (.cells #[v0, v1] 35) = W ∧ v0 = .slice (some ⟨w6.heap.size, 0, none⟩) 1 1 ∧ v1 = .slice (some ⟨w6.heap.size + 1, 0, none⟩) 1 1) → Calls Try.prog 16 #[.slice ra 2 rc, .slice (some ⟨w6.heap.size + 1 + 1, 0, none⟩) 2 2] W fun e w' => e = .returned (.bool true) ∧ Hid (Below w6.heap.size w6 w')) := by
    rintro W v0 v1 ⟨hW, rfl, rfl⟩
    obtain ⟨F, hF⟩ := HS3.out.1
    obtain ⟨h1, h2⟩ := rdl_litB w6 [98] [99] 1 1 rfl rfl (by omega) (by omega) (by decide) (by decide) #[.int .i32 98] #[.int .i32 99] rfl rfl W hW
    refine (rsame_any F _ ra _ 2 2 rc 2 _ _ W (hF.below (btr hb36 h2)) h1).mono ?_
    rintro e w' ⟨rfl, h⟩
    exact ⟨by simp, btr h2 h⟩
  have HSC : Hid (∀ w7 W, Hid (Below w6.heap.size w6 w7) → ((w7.alloc (.cells #[.int .i32 97, .int .i32 100] 21)).alloc (.cells #[.slice (some ⟨w7.heap.size, 0, none⟩) 2 2] 35) = W ∨ ((w7.alloc (.cells #[.int .i32 97, .int .i32 100] 21)).alloc (.cells #[.slice (some ⟨w7.heap.size, 0, none⟩) 2 2] 35)).drew = W) → Calls Try.prog 16 #[.slice ca 1 cc, .slice (some ⟨w7.heap.size + 1, 0, none⟩) 1 1] W fun e w' => e = .returned (.bool true) ∧ Hid (Below w6.heap.size w6 w') ∧ Hid (Below w.heap.size w w')) := by
    intro w7 W hb7 hW
    obtain ⟨F, hF⟩ := HS4.out.1
    obtain ⟨h1, h2⟩ := rdl_litA w7 [97, 100] 2 rfl (by omega) (by decide) #[.int .i32 97, .int .i32 100] rfl _ rfl
    obtain ⟨hr, hb⟩ : (∃ G, RdL G W (some ⟨w7.heap.size + 1, 0, none⟩) 1 1 [[97, 100]]) ∧ Below w7.heap.size w7 W := by
      rcases hW with rfl | rfl
      · exact ⟨⟨_, h1⟩, h2⟩
      · exact ⟨⟨_, h1.below (Below.refl _ _).drew⟩, h2.drew⟩
    obtain ⟨G, hG⟩ := hr
    have hbb := btr hb7.out hb
    refine (rsame_any F G ca _ 1 1 cc 1 _ _ W (hF.below (btr hb46 hbb)) hG).mono ?_
    rintro e w' ⟨rfl, h⟩
    exact ⟨by simp, btr hbb h, btr HS2.out.2.1 (btr HB3.out (btr hb36 (btr hbb h)))⟩
  have q := KS.out w6 (Below.refl _ _)
  clear hy1 hy2 hN hB6 hx1 hx2 hO hb36 hb46 HF4 HS5 HS4 HS3 HS2 HB3 HB4 HB5 HC2
  obtain ⟨q0, q1, q2, q3, q4, q5, q6, q7, q8⟩ := q
  go_wp2_with
    (first
      | (go_at_call 16; (first | (with_reducible refine (HSC.out _ _ B7 (Or.inl rfl)).mono ?_) | (with_reducible refine (HSC.out _ _ B7 (Or.inr rfl)).mono ?_)); rintro e w8 ⟨rfl, B8, B9⟩; obtain ⟨p0, p1, p2, p3, p4, p5, p6, p7, p8⟩ := KS.out _ B8.out)
      | (go_at_call 16; (with_reducible refine (HSA.out _ _ _ ⟨rfl, rfl, rfl⟩).mono ?_); rintro e w7 ⟨rfl, B7⟩; obtain ⟨p0, p1, p2, p3, p4, p5, p6, p7, p8⟩ := KS.out _ B7.out))

  all_goals
    go_ret
    exact ⟨rfl, B9.out⟩
end Go.Proofs.Ytfldjoiohejilaa.U

namespace Go.Proofs.Ytfldjoiohejilaa.U
open Go.RowKit
set_option linter.unusedVariables false
set_option linter.unusedSimpArgs false
set_option maxRecDepth 100000

def fitL (L : List (List Int)) : Bool := smallL L && !(L.any has10)
theorem fit_any (F : Nat → Prop) (a : Option Addr) (n c : Nat) (L : List (List Int)) (w : World) (h : RdL F w a n c L) (hw : WideL L) :
    Calls Try.prog 11 #[.slice a n c] w fun e w' => e = .returned (.bool (fitL L)) ∧ w' = w := by
  have h1 := small_wide F a n c L w h hw
  have h2 := rplain13_any F a n c L w h
  unfold fitL
  obtain ⟨S, hS⟩ : ∃ S, smallL L = S := ⟨_, rfl⟩
  obtain ⟨P, hP⟩ : ∃ P, (!(L.any has10)) = P := ⟨_, rfl⟩
  rw [hS] at h1 ⊢
  rw [hP] at h2 ⊢
  have H1 : Hid (Calls Try.prog 20 #[.slice a n c] w fun e w' => e = .returned (.bool S) ∧ w' = w) := h1.mono (fun e w' hh => ⟨hh.1, by first | exact hh.2 | exact hh.2.symm⟩)
  have H2 : Hid (Calls Try.prog 37 #[.slice a n c] w fun e w' => e = .returned (.bool P) ∧ w' = w) := h2.mono (fun e w' hh => ⟨hh.1, by first | exact hh.2 | exact hh.2.symm⟩)
  clear h1 h2 h hw hS hP
  go_enter Try.func11, Try.ntmps11
  cases S
  · go_wp2_with (go_at_call 20; (refine H1.out.mono ?_); rintro e wq ⟨rfl, hwq⟩; subst hwq)
    go_ret
    exact ⟨rfl, rfl⟩
  · go_wp2_with (first
      | (go_at_call 37; (refine H2.out.mono ?_); rintro e wq ⟨rfl, hwq⟩; subst hwq)
      | (go_at_call 20; (refine H1.out.mono ?_); rintro e wq ⟨rfl, hwq⟩; subst hwq))
    go_ret
    exact ⟨by cases P <;> rfl, rfl⟩
end Go.Proofs.Ytfldjoiohejilaa.U

namespace Go.Proofs.Ytfldjoiohejilaa.U
open Go.RowKit
set_option linter.unusedVariables false
set_option linter.unusedSimpArgs false
set_option maxRecDepth 100000

theorem fit_small {L : List (List Int)} (h : fitL L = true) : sizeN (lens L) ≤ 65536 ∧ plainL L := by
  unfold fitL smallL at h
  simp only [Bool.and_eq_true, decide_eq_true_eq, Bool.not_eq_true'] at h
  refine ⟨?_, plain_iff.1 h.2⟩
  by_cases hne : L = []
  · subst hne; simp [lens, sizeN_nil]
  · have := joinL_len hne
    omega
/-- a box with a region in it -/
def RgC (b : Nat) (r : Rgn) (W : World) : Prop := W.cell? ⟨b, 0, none⟩ = some (.int .i64 r.f.l) ∧ W.cell? ⟨b, 1, none⟩ = some (.int .i64 r.f.c) ∧ W.cell? ⟨b, 2, none⟩ = some (.int .i64 r.t.l) ∧ W.cell? ⟨b, 3, none⟩ = some (.int .i64 r.t.c) ∧ W.cell? ⟨b, 4, none⟩ = some (.int .i64 r.k)
theorem rgC_of {b : Nat} {r : Rgn} {W : World} (h : W.heap[b]? = some (.cells #[.int .i64 r.f.l, .int .i64 r.f.c, .int .i64 r.t.l, .int .i64 r.t.c, .int .i64 r.k] 26 (0, 0))) : RgC b r W :=
  ⟨cell_row h 0, cell_row h 1, cell_row h 2, cell_row h 3, cell_row h 4⟩
def PsC (b : Nat) (x y : Int) (W : World) : Prop := W.cell? ⟨b, 0, none⟩ = some (.int .i64 x) ∧ W.cell? ⟨b, 1, none⟩ = some (.int .i64 y)
theorem psC_of {b : Nat} {x y : Int} {W : World} {t : TypeId} (h : W.heap[b]? = some (.cells #[.int .i64 x, .int .i64 y] t (0, 0))) : PsC b x y W := ⟨cell_row h 0, cell_row h 1⟩
set_option maxHeartbeats 8000000 in
theorem operCuts_wideP (HP : PasteK 22) (a : Option Addr) (n c : Nat) (L : List (List Int)) (r : Rgn) (w : World) (h : RdL (fun k => k < w.heap.size) w a n c L) (hw : WideL L) (hr : i64r r) :
    Calls Try.prog 4 #[.slice a n c, r.v] w fun e w' => e = .returned (.bool true) ∧ Below w.heap.size w w' := by
  obtain ⟨wb, hwb⟩ : ∃ wb, w.alloc (.cells #[.int .i64 r.f.l, .int .i64 r.f.c, .int .i64 r.t.l, .int .i64 r.t.c, .int .i64 r.k] 26) = wb := ⟨_, rfl⟩
  have hrow : wb.heap[w.heap.size]? = some (.cells #[.int .i64 r.f.l, .int .i64 r.f.c, .int .i64 r.t.l, .int .i64 r.t.c, .int .i64 r.k] 26 (0, 0)) := by rw [← hwb]; exact heap_alloc_new w _
  have hB : Below w.heap.size w wb := by rw [← hwb]; exact bal _ _
  obtain ⟨b, hbe⟩ : ∃ b, w.heap.size = b := ⟨_, rfl⟩
  rw [hbe] at hrow
  have hfit := fit_any _ a n c L wb (h.below hB) hw
  have HB := Lib.hid hB
  have HW := Lib.hid hwb
  have HBE := Lib.hid hbe
  have KS : Hid (∀ W, Below wb.heap.size wb W → RgC b r W) := fun W hW => rgC_of (hbox hrow hW)
  have HH := Lib.hid h
  have HPP := Lib.hid HP
  show Calls Try.prog _ #[_, .agg #[.int .i64 r.f.l, .int .i64 r.f.c, .int .i64 r.t.l, .int .i64 r.t.c, .int .i64 r.k]] w _
  obtain ⟨c0, c1, c2, c3, c4⟩ := KS.out wb (Below.refl _ _)
  by_cases hF : fitL L = true
  · rw [hF] at hfit
    have HFIT : Hid (∀ W, W = wb → Calls Try.prog 11 #[.slice a n c] W fun e w' => e = .returned (.bool true) ∧ W = w') := by
      rintro W rfl
      exact hfit.mono fun e w' h => ⟨h.1, h.2.symm⟩
    obtain ⟨hs, hpl⟩ := fit_small hF
    obtain ⟨⟨R0, ⟨R1, R2⟩, R3⟩, hR⟩ : ∃ R, cutR L r = R := ⟨_, rfl⟩
    have HTW : Hid (Calls Try.prog 12 #[.slice a n c] wb fun e w' => ∃ ma mc, e = .returned (.slice ma n mc) ∧ RgC b r w' ∧ Hid ((∃ F, RdL F w' ma n mc L) ∧ Below wb.heap.size wb w')) := by
      refine (rtwin_any _ a n c L wb (h.below hB) (by omega)).mono ?_
      rintro e w' ⟨ma, mc, rfl, hf, hb⟩
      exact ⟨ma, mc, rfl, KS.out _ hb, ⟨_, hf.rdl (lines_wf (rdl_wf h))⟩, hb⟩
    have HC1 : Hid (∀ W ma mc, Hid ((∃ F, RdL F W ma n mc L) ∧ Below wb.heap.size wb W) → Calls Try.prog 18 #[.slice ma n mc, .agg #[.int .i64 r.f.l, .int .i64 r.f.c, .int .i64 r.t.l, .int .i64 r.t.c, .int .i64 r.k]] W fun e w' => ∃ ra rm rc, e = .returned (.tuple #[.slice ra rm rc, .agg #[.int .i64 (R1 : Nat), .int .i64 (R2 : Nat)], .int .i64 R3]) ∧ ∃ w3 pb, w'.alloc (.cells #[.int .i64 (R1 : Nat), .int .i64 (R2 : Nat)] 24) = w3 ∧ w'.heap.size = pb ∧ RgC b r w3 ∧ Hid ((∃ F, RdL F w3 ma n mc L) ∧ Below wb.heap.size wb w3 ∧ (∃ F, RdL F w3 ra rm rc R0) ∧ w3.heap[pb]? = some (.cells #[.int .i64 (R1 : Nat), .int .i64 (R2 : Nat)] 24 (0, 0)))) := by
      rintro W ma mc hW
      obtain ⟨⟨F, hm⟩, hbW⟩ := hW.out
      refine (kcutK F ma n mc L r W hm hs hr).mono ?_
      rintro e w' ⟨ra, rm, rc, rfl, hf, hb⟩
      rw [hR] at hf ⊢
      have hb2 := btr hb (bal w' (.cells #[.int .i64 (R1 : Nat), .int .i64 (R2 : Nat)] 24))
      exact ⟨ra, rm, rc, rfl, _, _, rfl, rfl, KS.out _ (btr hbW hb2), ⟨_, hm.below hb2⟩, btr hbW hb2, ⟨_, hf.below (bal _ _)⟩, heap_alloc_new _ _⟩
    have HC2 : Hid (∀ W ma mc ra rm rc pb, Hid ((∃ F, RdL F W ma n mc L) ∧ Below wb.heap.size wb W ∧ (∃ F, RdL F W ra rm rc R0) ∧ W.heap[pb]? = some (.cells #[.int .i64 (R1 : Nat), .int .i64 (R2 : Nat)] 24 (0, 0))) → Calls Try.prog 19 #[.slice a n c, .agg #[.int .i64 r.f.l, .int .i64 r.f.c, .int .i64 r.t.l, .int .i64 r.t.c, .int .i64 r.k]] W fun e w' => ∃ qa qm qc, e = .returned (.tuple #[.slice qa qm qc, .agg #[.int .i64 (R1 : Nat), .int .i64 (R2 : Nat)], .int .i64 R3]) ∧ ∃ w3 qb, w'.alloc (.cells #[.int .i64 (R1 : Nat), .int .i64 (R2 : Nat)] 24) = w3 ∧ w'.heap.size = qb ∧ PsC pb (R1 : Nat) (R2 : Nat) w3 ∧ PsC qb (R1 : Nat) (R2 : Nat) w3 ∧ Hid ((∃ F, RdL F w3 ma n mc L) ∧ Below wb.heap.size wb w3 ∧ (∃ F, RdL F w3 ra rm rc R0) ∧ (∃ F, RdL F w3 qa qm qc R0))) := by
      rintro W ma mc ra rm rc pb hW
      obtain ⟨⟨F, hm⟩, hbW, ⟨G, hg⟩, hp⟩ := hW.out
      refine (rcutK _ a n c L r W (HH.out.below (btr hB hbW)) hs hr).mono ?_
      rintro e w' ⟨qa, qm, qc, rfl, hf, hb⟩
      rw [hR] at hf ⊢
      have hb2 := btr hb (bal w' (.cells #[.int .i64 (R1 : Nat), .int .i64 (R2 : Nat)] 24))
      exact ⟨qa, qm, qc, rfl, _, _, rfl, rfl, psC_of (hbox hp hb2), psC_of (heap_alloc_new _ _), ⟨_, hm.below hb2⟩, btr hbW hb2, ⟨_, hg.below hb2⟩, ⟨_, hf.below (bal _ _)⟩⟩
    have HS1 : Hid (∀ W ma mc ra rm rc qa qm qc, Hid ((∃ F, RdL F W ma n mc L) ∧ Below wb.heap.size wb W ∧ (∃ F, RdL F W ra rm rc R0) ∧ (∃ F, RdL F W qa qm qc R0)) → Calls Try.prog 16 #[.slice ra rm rc, .slice qa qm qc] W fun e w' => e = .returned (.bool true) ∧ Hid ((∃ F, RdL F w' ma n mc L) ∧ Below wb.heap.size wb w')) := by
      rintro W ma mc ra rm rc qa qm qc hW
      obtain ⟨⟨F, hm⟩, hbW, ⟨G, hg⟩, ⟨G2, hg2⟩⟩ := hW.out
      refine (rsame_any G G2 ra qa rm qm rc qc _ _ W hg hg2).mono ?_
      rintro e w' ⟨rfl, hb⟩
      exact ⟨by simp, ⟨_, hm.below hb⟩, btr hbW hb⟩
    have HS2 : Hid (∀ W ma mc, Hid ((∃ F, RdL F W ma n mc L) ∧ Below wb.heap.size wb W) → Calls Try.prog 16 #[.slice ma n mc, .slice a n c] W fun e w' => e = .returned (.bool true) ∧ Hid (Below w.heap.size w w')) := by
      rintro W ma mc hW
      obtain ⟨⟨F, hm⟩, hbW⟩ := hW.out
      refine (rsame_any F _ ma a n n mc c _ _ W hm (HH.out.below (btr hB hbW))).mono ?_
      rintro e w' ⟨rfl, hb⟩
      exact ⟨by simp, btr hB (btr hbW hb)⟩
    have HAW : Hid (∀ W, Hid (Below w.heap.size w W) → Calls Try.prog 17 #[] W fun e w' => e = .returned (.bool true) ∧ Hid (Below w.heap.size w w')) := by
      intro W hW
      refine (awake_any HPP.out W).mono ?_
      rintro e w' ⟨rfl, hb⟩
      exact ⟨rfl, btr hW.out hb⟩
    clear hR hs hpl hF hfit h hw hr hrow hB hwb hbe HP
    go_enter Try.func4, Try.ntmps4
    go_upto_region 1 with fail
    rw [HW.out, HBE.out]
    go_wp2_with (first
      | (go_at_call 11; (with_reducible refine (HFIT.out _ rfl).mono ?_); rintro e wq ⟨rfl, hwq⟩; subst hwq)
      | (go_at_call 12; (with_reducible refine HTW.out.mono ?_); rintro e w1 ⟨ma, mc, rfl, ⟨c0, c1, c2, c3, c4⟩, H1⟩)
      | (go_at_call 18; (with_reducible refine (HC1.out _ _ _ H1).mono ?_); rintro e w2 ⟨ra, rm, rc, rfl, w3, pb, hw3, hpb, ⟨c0, c1, c2, c3, c4⟩, H3⟩)
      | (go_at_call 19; (with_reducible refine (HC2.out _ _ _ _ _ _ _ H3).mono ?_); rintro e w4 ⟨qa, qm, qc, rfl, w5, qb, hw5, hqb, ⟨d0, d1⟩, ⟨e0, e1⟩, H5⟩)
      | (go_at_call 16; (with_reducible refine (HS1.out _ _ _ _ _ _ _ _ _ H5).mono ?_); rintro e w6 ⟨rfl, H6⟩)
      | (go_at_call 16; (with_reducible refine (HS2.out _ _ _ H6).mono ?_); rintro e w7 ⟨rfl, H7⟩)
      | (go_at_call 17; (with_reducible refine (HAW.out _ H7).mono ?_); rintro e w8 ⟨rfl, H8⟩))
    go_ret
    exact ⟨rfl, H8.out⟩
  · have hF2 : fitL L = false := by simpa using hF
    rw [hF2] at hfit
    have HFIT : Hid (∀ W, W = wb → Calls Try.prog 11 #[.slice a n c] W fun e w' => e = .returned (.bool false) ∧ W = w') := by
      rintro W rfl
      exact hfit.mono fun e w' h => ⟨h.1, h.2.symm⟩
    clear hF hF2 hfit h hw hr hrow hB hwb hbe HP
    go_enter Try.func4, Try.ntmps4
    go_upto_region 1 with fail
    rw [HW.out, HBE.out]
    go_wp2_with (go_at_call 11; (with_reducible refine (HFIT.out _ rfl).mono ?_); rintro e wq ⟨rfl, hwq⟩; subst hwq)
    go_ret
    exact ⟨rfl, HB.out⟩
end Go.Proofs.Ytfldjoiohejilaa.U

namespace Go.Proofs.Ytfldjoiohejilaa.U
open Go.RowKit Go.ChangeShapes Go.WideShapes Go.Deep
set_option linter.unusedVariables false
set_option linter.unusedSimpArgs false
set_option maxRecDepth 100000

theorem five13 {α : Type} {l : List α} (h : l.length = 5) : ∃ a b c d e, l = [a, b, c, d, e] := by
  match l, h with
  | [a, b, c, d, e], _ => exact ⟨a, b, c, d, e, rfl⟩
theorem four13 {α : Type} {l : List α} (h : l.length = 4) : ∃ a b c d, l = [a, b, c, d] := by
  match l, h with
  | [a, b, c, d], _ => exact ⟨a, b, c, d, rfl⟩
theorem three13 {α : Type} {l : List α} (h : l.length = 3) : ∃ a b c, l = [a, b, c] := by
  match l, h with
  | [a, b, c], _ => exact ⟨a, b, c, rfl⟩
section
variable {H : Type} {enc : TypeId × Value → H} {w : World} {base : Nat} {held : Bool}
theorem rgn_of {m : Nat} {cs : List Value} {y : DataW H × List MemPlace} (h : DataW.trod enc Try.prog w base (fun _ => true) held m 26 cs = some y) : ∃ r : Rgn, cs = [.int .i64 r.f.l, .int .i64 r.f.c, .int .i64 r.t.l, .int .i64 r.t.c, .int .i64 r.k] ∧ i64r r := by
  have hC : Try.prog.cellsOf 26 = 5 := by kernel_rfl
  obtain ⟨ys, n', _, hy, hcl, hyl, hf⟩ := DataW.trod_struct Try.underlying26 h
  rw [hC] at hcl
  obtain ⟨v0, v1, v2, v3, v4, rfl⟩ := five13 hcl
  obtain ⟨y0, y1, y2, rfl⟩ := three13 (l := ys) hyl
  have g0 : DataW.trod enc Try.prog w base (fun _ => true) held n' 24 [v0, v1] = some y0 := hf 0 _ rfl
  have g1 : DataW.trod enc Try.prog w base (fun _ => true) held n' 24 [v2, v3] = some y1 := hf 1 _ rfl
  have g2 : DataW.trod enc Try.prog w base (fun _ => true) held n' 3 [v4] = some y2 := hf 2 _ rfl
  obtain ⟨p, e0, w0⟩ := po_of g0
  obtain ⟨q, e1, w1⟩ := po_of g1
  obtain ⟨k, e2, _, w2⟩ := DataW.trod_int Try.underlying3 g2
  unfold Po.cells at e0 e1
  simp at e0 e1 e2
  obtain ⟨e0, e0'⟩ := e0
  obtain ⟨e1, e1'⟩ := e1
  subst e0 e0' e1 e1' e2
  exact ⟨⟨p, q, k⟩, rfl, w0, w1, wf_i64b w2⟩
theorem open_rgn {r : Reach} {b0 : Nat} {v : Value} {d : DataW H} {p : List MemPlace} (hv : Value.okWide Try.prog w r b0 26 v) (h : DataW.Trod enc Try.prog w base (fun _ => true) held 26 v d p) :
    ∃ q : Rgn, v = q.v ∧ i64r q := by
  obtain ⟨cs, rfl, hsz⟩ := okWide_struct Try.underlying26 hv
  obtain ⟨fuel, hf⟩ := h
  obtain ⟨q, e, hc⟩ := rgn_of (y := (d, p)) (cs := cs.toList) (by simpa [Value.cells] using hf)
  refine ⟨q, ?_, hc⟩
  unfold Rgn.v
  congr 1
  apply Array.toList_inj.1
  rw [e]
theorem open_one {r : Reach} {b0 : Nat} {v : Value} {d : DataW H} {p : List MemPlace} (hv : Value.okWide Try.prog w r b0 54 v) (h : DataW.Trod enc Try.prog w base (fun _ => true) held 54 v d p) :
    ∃ z m : Int, v = .agg #[.int .i32 z, .int .i64 m] ∧ (Lit.int .i32 z).wf = true ∧ i64b m := by
  have hC : Try.prog.cellsOf 54 = 2 := by kernel_rfl
  obtain ⟨cs, rfl, hsz⟩ := okWide_struct Try.underlying54 hv
  obtain ⟨fuel, hf⟩ := h
  have hf2 : DataW.trod enc Try.prog w base (fun _ => true) held fuel 54 cs.toList = some (d, p) := by simpa [Value.cells] using hf
  obtain ⟨xs, hxs⟩ : ∃ xs, cs.toList = xs := ⟨_, rfl⟩
  rw [hxs] at hf2
  obtain ⟨ys, n', _, hy, hcl, hyl, hg⟩ := DataW.trod_struct Try.underlying54 hf2
  rw [hC] at hcl
  obtain ⟨v0, v1, rfl⟩ := twoL hcl
  obtain ⟨y0, y1, rfl⟩ := twoL (l := ys) hyl
  have g0 : DataW.trod enc Try.prog w base (fun _ => true) held n' 21 [v0] = some y0 := hg 0 _ rfl
  have g1 : DataW.trod enc Try.prog w base (fun _ => true) held n' 3 [v1] = some y1 := hg 1 _ rfl
  obtain ⟨z, e0, _, w0⟩ := DataW.trod_int Try.underlying21 g0
  obtain ⟨m, e1, _, w1⟩ := DataW.trod_int Try.underlying3 g1
  simp at e0 e1
  subst e0 e1
  refine ⟨z, m, ?_, w0, wf_i64b w1⟩
  congr 1
  apply Array.toList_inj.1
  rw [hxs]
theorem open_put {r : Reach} {b0 : Nat} {v : Value} {d : DataW H} {p : List MemPlace} (hv : Value.okWide Try.prog w r b0 42 v) (h : DataW.Trod enc Try.prog w base (fun _ => true) held 42 v d p) (hL : Lite 42 d) :
    ∃ k a n c L bh m, v = .agg #[.int .i64 k, .slice a n c, .bool bh, .int .i64 m] ∧ i64b k ∧ RdL (fun k => k < w.heap.size) w a n c L ∧ WideL L ∧ i64b m := by
  have hC : Try.prog.cellsOf 42 = 4 := by kernel_rfl
  obtain ⟨cs, rfl, hsz⟩ := okWide_struct Try.underlying42 hv
  obtain ⟨fuel, hf⟩ := h
  have hf2 : DataW.trod enc Try.prog w base (fun _ => true) held fuel 42 cs.toList = some (d, p) := by simpa [Value.cells] using hf
  obtain ⟨xs, hxs⟩ : ∃ xs, cs.toList = xs := ⟨_, rfl⟩
  rw [hxs] at hf2
  obtain ⟨ys, n', _, hy, hcl, hyl, hg⟩ := DataW.trod_struct Try.underlying42 hf2
  rw [hC] at hcl
  obtain ⟨v0, v1, v2, v3, rfl⟩ := four13 hcl
  obtain ⟨y0, y1, y2, rfl⟩ := three13 (l := ys) hyl
  have g0 : DataW.trod enc Try.prog w base (fun _ => true) held n' 30 [v0, v1] = some y0 := hg 0 _ rfl
  have g1 : DataW.trod enc Try.prog w base (fun _ => true) held n' 4 [v2] = some y1 := hg 1 _ rfl
  have g2 : DataW.trod enc Try.prog w base (fun _ => true) held n' 3 [v3] = some y2 := hg 2 _ rfl
  have hy : d = _ := congrArg Prod.fst hy
  have l1 : Lite 30 y0.1 := fun x hx => hL x (by
    rw [hy]
    simp only [DataW.weights, Try.underlying42]
    exact DataW.weights_mem_each (j := 0) (t := 30) (d := y0.1) rfl rfl x hx)
  obtain ⟨k, a, n, c, L, e0, w0, hr, hw⟩ := reg_ofW g0 l1
  obtain ⟨bh, e1, _⟩ := DataW.trod_bool Try.underlying4 g1
  obtain ⟨m, e2, _, w2⟩ := DataW.trod_int Try.underlying3 g2
  simp at e0 e1 e2
  obtain ⟨e0, e0'⟩ := e0
  subst e0 e0' e1 e2
  refine ⟨k, a, n, c, L, bh, m, ?_, w0, hr, hw, wf_i64b w2⟩
  congr 1
  apply Array.toList_inj.1
  rw [hxs]
end
end Go.Proofs.Ytfldjoiohejilaa.U
