/-
  The law's row: a text's runes; chapter 7's examples.
-/
import Derived.Test.YtkjiobbkbhmijaaRParse
import Derived.Laws.IdiomStrings
namespace Go.Proofs.Ytkjiobbkbhmijaa.U
open Go.RowKit
set_option linter.unusedVariables false
set_option linter.unusedSimpArgs false
set_option maxRecDepth 100000

theorem btr {a b c : World} (h : Below a.heap.size a b) (k : Below b.heap.size b c) : Below a.heap.size a c := h.trans (k.mono h.size)
theorem row_any (s : ByteArray) (xs : List Int) (n : Nat) (hn : xs.length = n) (h : Conv.runesFrom s s.size 0 #[] = (xs.map (Value.int .i32)).toArray) (hx : ∀ x ∈ xs, (Lit.int .i32 x).wf = true) (hl : n ≤ 1000) (w : World) :
    Calls Try.prog 22 #[.string s] w fun e w' => ∃ a c, e = .returned (.slice a n c) ∧ Hid (Rd .i32 w' a n c xs ∧ Below w.heap.size w w') := by
  subst hn
  have hsz : (Conv.runesFrom s s.size 0 #[]).size = xs.length := by rw [h]; simp
  have hcv := run_runes_of_string (P := Try.prog) w 9 22 21 s Try.underlying9 Try.underlying22 Try.underlying21 (by omega)
  rw [hsz, h] at hcv
  obtain ⟨g, hg⟩ : ∃ g, grownCap w xs.length 0 21 = g := ⟨_, rfl⟩
  have hge := grownCap_ge w xs.length 0 21
  have hle := grownCap_le_maxLen w xs.length 0 21 (by unfold maxLen; omega)
  rw [hg] at hcv hge hle
  obtain ⟨W, hW⟩ : ∃ W, (w.drew.alloc (.cells ((xs.map (Value.int .i32)).toArray ++ Array.replicate (g - xs.length) (.int .i32 0)) 21)) = W := ⟨_, rfl⟩
  rw [hW] at hcv
  have hfin : Hid (Rd .i32 W (some ⟨w.heap.size, 0, none⟩) xs.length g xs ∧ Below w.heap.size w W) := by
    rw [← hW]
    refine ⟨⟨rfl, hge, hle, hx, (fun e => by cases e), fun hp => ⟨_, 0, rfl, fun i hi => ?_⟩⟩, (Below.refl _ w).drew.alloc (Nat.le_refl _) _⟩
    have := heap_alloc_new w.drew (.cells ((xs.map (Value.int .i32)).toArray ++ Array.replicate (g - xs.length) (.int .i32 0)) 21)
    have h2 := cell_of_row _ w.drew.heap.size (0 + i) _ _ _ this
    refine h2.trans ?_
    rw [Nat.zero_add, Array.getElem?_append_left (by simp; exact hi)]
    simp only [List.getElem?_toArray, List.getElem?_map]
    rw [List.getElem?_eq_getElem hi, List.getD_eq_getElem?_getD, List.getElem?_eq_getElem hi]
    rfl
  clear hW hg hge hle h hsz
  go_enter Try.func22, Try.ntmps22
  go_wp2
  go_ret
  exact ⟨_, _, rfl, hfin⟩
/-- a part's fields, and its parts one by one -/
theorem ReAt.parts {F : Nat → Prop} {w : World} {k r : Int} {sa : Option Addr} {sn sc : Nat} {nt : Bool} {lo hi : Int} {pa : Option Addr} {pn pc : Nat} {k' r' : Int} {nt' : Bool} {lo' hi' : Int} {ps : List Re} (h : ReAt F w [.int .i64 k, .int .i32 r, .slice sa sn sc, .bool nt, .int .i64 lo, .int .i64 hi, .slice pa pn pc] (.mk k' r' [] nt' lo' hi' ps)) :
    k = k' ∧ r = r' ∧ sn = 0 ∧ nt = nt' ∧ lo = lo' ∧ hi = hi' ∧ pn = ps.length ∧ ∀ (i : Nat) (x : Re), ps[i]? = some x → ∃ b off, pa = some ⟨b, off, none⟩ ∧ ∃ v, ReAt F w v x ∧ ∀ j u, v[j]? = some u → w.cell? ⟨b, off + (i * 7 + j), none⟩ = some u := by
  unfold ReAt at h
  obtain ⟨sa', sc', pa', pc', e, h1, h2, vs, h3, h4, h5⟩ := h
  simp only [rev, List.cons.injEq, Value.int.injEq, Value.slice.injEq, Value.bool.injEq, true_and, and_true, List.length_nil] at e
  obtain ⟨rfl, rfl, ⟨rfl, rfl, rfl⟩, rfl, rfl, rfl, rfl, rfl, rfl⟩ := e
  refine ⟨rfl, rfl, rfl, rfl, rfl, rfl, rfl, fun i x hx => ?_⟩
  have hlt : i < ps.length := (List.getElem?_eq_some_iff.1 hx).1
  obtain ⟨b, off, rfl, hbl, hc⟩ := h3.at_ (by omega)
  obtain ⟨v, hv, hj⟩ := PsAt.get ps i h5 hx
  refine ⟨b, off, rfl, v, hv, fun j u hu => hc _ _ ?_⟩
  have hj7 : j < 7 := by
    rw [← hv.rev7.len]
    exact (List.getElem?_eq_some_iff.1 hu).1
  rw [hj j hj7, hu]
/-- a part's kind and counts, in its cells -/
theorem ReAt.fields {F : Nat → Prop} {w : World} {v : List Value} {k r : Int} {st : List (Int × Int)} {nt : Bool} {lo hi : Int} {ps : List Re} (h : ReAt F w v (.mk k r st nt lo hi ps)) : v[0]? = some (.int .i64 k) ∧ v[4]? = some (.int .i64 lo) ∧ v[5]? = some (.int .i64 hi) := by
  unfold ReAt at h
  obtain ⟨sa', sc', pa', pc', rfl, _⟩ := h
  exact ⟨rfl, rfl, rfl⟩
theorem prA (a : Option Addr) (c : Nat) (w : World) (hr : Rd .i32 w a 3 c exA) :
    Calls Try.prog 8 #[.slice a 3 c] w fun e w' => ∃ sa sc b off pc, e = .returned (.tuple #[.agg #[.int .i64 8, .int .i32 0, .slice sa 0 sc, .bool false, .int .i64 0, .int .i64 0, .slice (some ⟨b, off, none⟩) 2 pc], .int .i64 0]) ∧ Hid (w'.cell? ⟨b, off + 7, none⟩ = some (.int .i64 10) ∧ Below w.heap.size w w') := by
  refine (parse_any a 3 c exA w hr (by omega)).mono ?_
  intro e w' h
  rw [parse_exA] at h
  obtain ⟨k4, r4, sa4, sn4, sc4, nt4, l4, h4, pa4, pn4, pc4, he, hre, hb⟩ := h
  obtain ⟨rfl, rfl, hsn, rfl, rfl, rfl, rfl, hget⟩ := hre.parts
  subst hsn
  obtain ⟨b, off, rfl, v0, hv0, hc0⟩ := hget 0 _ rfl
  obtain ⟨b', off', e1, v1, hv1, hc1⟩ := hget 1 _ rfl
  cases e1
  exact ⟨sa4, sc4, b, off, pc4, he, hc1 0 _ hv1.fields.1, hb⟩

theorem prB (a : Option Addr) (c : Nat) (w : World) (hr : Rd .i32 w a 9 c exB) :
    Calls Try.prog 8 #[.slice a 9 c] w fun e w' => ∃ sa sc b off pc, e = .returned (.tuple #[.agg #[.int .i64 8, .int .i32 0, .slice sa 0 sc, .bool false, .int .i64 0, .int .i64 0, .slice (some ⟨b, off, none⟩) 2 pc], .int .i64 0]) ∧ Hid (w'.cell? ⟨b, off + 4, none⟩ = some (.int .i64 1) ∧ w'.cell? ⟨b, off + 7, none⟩ = some (.int .i64 5) ∧ Below w.heap.size w w') := by
  refine (parse_any a 9 c exB w hr (by omega)).mono ?_
  intro e w' h
  rw [parse_exB] at h
  obtain ⟨k4, r4, sa4, sn4, sc4, nt4, l4, h4, pa4, pn4, pc4, he, hre, hb⟩ := h
  obtain ⟨rfl, rfl, hsn, rfl, rfl, rfl, rfl, hget⟩ := hre.parts
  subst hsn
  obtain ⟨b, off, rfl, v0, hv0, hc0⟩ := hget 0 _ rfl
  obtain ⟨b', off', e1, v1, hv1, hc1⟩ := hget 1 _ rfl
  cases e1
  exact ⟨sa4, sc4, b, off, pc4, he, hc0 4 _ hv0.fields.2.1, hc1 0 _ hv1.fields.1, hb⟩

theorem prErr (p : List Int) (n : Nat) (er : Int) (hp : parse p = .error er) (hn : n ≤ 1000000) (a : Option Addr) (c : Nat) (w : World) (hr : Rd .i32 w a n c p) :
    Calls Try.prog 8 #[.slice a n c] w fun e w' => e = .returned (.tuple #[.agg #[.int .i64 0, .int .i32 0, .slice none 0 0, .bool false, .int .i64 0, .int .i64 0, .slice none 0 0], .int .i64 er]) ∧ Hid (Below w.heap.size w w') := by
  refine (parse_any a n c p w hr hn).mono ?_
  intro e w' h
  rw [hp] at h
  exact ⟨h.1, h.2⟩
theorem rowA (w : World) : Calls Try.prog 22 #[.string ⟨#[97, 98, 42]⟩] w fun e w' => ∃ a c, e = .returned (.slice a 3 c) ∧ Hid (Rd .i32 w' a 3 c exA ∧ Below w.heap.size w w') :=
  row_any _ exA 3 rfl (by kernel_rfl) (by decide) (by omega) w
theorem rowB (w : World) : Calls Try.prog 22 #[.string ⟨#[92, 40, 97, 92, 124, 98, 92, 41, 36]⟩] w fun e w' => ∃ a c, e = .returned (.slice a 9 c) ∧ Hid (Rd .i32 w' a 9 c exB ∧ Below w.heap.size w w') :=
  row_any _ exB 9 rfl (by kernel_rfl) (by decide) (by omega) w
theorem rowC (w : World) : Calls Try.prog 22 #[.string ⟨#[97, 92, 123, 50]⟩] w fun e w' => ∃ a c, e = .returned (.slice a 4 c) ∧ Hid (Rd .i32 w' a 4 c exC ∧ Below w.heap.size w w') :=
  row_any _ exC 4 rfl (by kernel_rfl) (by decide) (by omega) w
theorem rowD (w : World) : Calls Try.prog 22 #[.string ⟨#[92, 123, 50, 92, 125]⟩] w fun e w' => ∃ a c, e = .returned (.slice a 5 c) ∧ Hid (Rd .i32 w' a 5 c exD ∧ Below w.heap.size w w') :=
  row_any _ exD 5 rfl (by kernel_rfl) (by decide) (by omega) w

set_option maxHeartbeats 1000000 in
theorem awake_any (w : World) : Calls Try.prog 14 #[] w fun e w' => e = .returned (.bool true) ∧ Below w.heap.size w w' := by
  go_enter Try.func14, Try.ntmps14
  have tokA : True := trivial
  have tokB : True := trivial
  have tokC : True := trivial
  have tokD : True := trivial
  have tkA : True := trivial
  have tkB : True := trivial
  have tkC : True := trivial
  have tkD : True := trivial
  go_upto_region 5 with (first
    | (go_at_call 22; have _t := tokA; refine (rowA _).mono ?_; clear tokA _t; rintro e wa ⟨aA, cA, rfl, HA⟩)
    | (go_at_call 8; have _t := tkA; refine (prA _ _ _ HA.out.1).mono ?_; clear tkA _t; rintro e wa2 ⟨sa1, sc1, b1, o1, pc1, rfl, HA2⟩)
    | (go_at_call 22; have _t := tokB; refine (rowB _).mono ?_; clear tokB _t; rintro e wb ⟨aB, cB, rfl, HB⟩)
    | (go_at_call 8; have _t := tkB; refine (prB _ _ _ HB.out.1).mono ?_; clear tkB _t; rintro e wb2 ⟨sa2, sc2, b2, o2, pc2, rfl, HB2⟩)
    | (go_at_call 22; have _t := tokC; refine (rowC _).mono ?_; clear tokC _t; rintro e wd ⟨aC, cC, rfl, HC⟩)
    | (go_at_call 8; have _t := tkC; refine (prErr exC 4 10 parse_exC (by omega) _ _ _ HC.out.1).mono ?_; clear tkC _t; rintro e wd2 ⟨rfl, HC2⟩)
    | (go_at_call 22; have _t := tokD; refine (rowD _).mono ?_; clear tokD _t; rintro e wf ⟨aD, cD, rfl, HD⟩)
    | (go_at_call 8; have _t := tkD; refine (prErr exD 5 11 parse_exD (by omega) _ _ _ HD.out.1).mono ?_; clear tkD _t; rintro e wf2 ⟨rfl, HD2⟩))
  have X1 : Below wa2.heap.size wa2 wb2 := btr (bal wa2 _) (btr HB.out.2 HB2.out.2.2)
  have X2 := btr (bal wb2 (.cells #[.int .i64 8, .int .i32 0, .slice sa2 0 sc2, .bool false, .int .i64 0, .int .i64 0, .slice (some ⟨b2, o2, none⟩) 2 pc2] 26)) (btr HC.out.2 (btr HC2.out (btr (bal wd2 _) (btr HD.out.2 (btr HD2.out (bal wf2 (.cells #[.int .i64 0, .int .i32 0, .slice none 0 0, .bool false, .int .i64 0, .int .i64 0, .slice none 0 0] 26)))))))
  have X3 := btr (bal wa2 (.cells #[.int .i64 8, .int .i32 0, .slice sa1 0 sc1, .bool false, .int .i64 0, .int .i64 0, .slice (some ⟨b1, o1, none⟩) 2 pc1] 26)) (btr HB.out.2 (btr HB2.out.2.2 X2))
  have Y1 := heap_alloc_new wa2 (.cells #[.int .i64 8, .int .i32 0, .slice sa1 0 sc1, .bool false, .int .i64 0, .int .i64 0, .slice (some ⟨b1, o1, none⟩) 2 pc1] 26)
  have Y2 := heap_alloc_new wb2 (.cells #[.int .i64 8, .int .i32 0, .slice sa2 0 sc2, .bool false, .int .i64 0, .int .i64 0, .slice (some ⟨b2, o2, none⟩) 2 pc2] 26)
  have Z1 := ((btr HB.out.2 (btr HB2.out.2.2 X2)).block _ (heap_lt Y1)).trans Y1
  have Z2 := ((btr HC.out.2 (btr HC2.out (btr (bal wd2 _) (btr HD.out.2 (btr HD2.out (bal wf2 (.cells #[.int .i64 0, .int .i32 0, .slice none 0 0, .bool false, .int .i64 0, .int .i64 0, .slice none 0 0] 26))))))).block _ (heap_lt Y2)).trans Y2
  have e1 := (X3.cell (p := ⟨b1, o1 + 7, none⟩) (block_lt_of_cell HA2.out.1)).trans HA2.out.1
  have e2 := (X2.cell (p := ⟨b2, o2 + 4, none⟩) (block_lt_of_cell HB2.out.1)).trans HB2.out.1
  have e3 := (X2.cell (p := ⟨b2, o2 + 7, none⟩) (block_lt_of_cell HB2.out.2.1)).trans HB2.out.2.1
  have HEND := Lib.hid (btr HA.out.2 (btr HA2.out.2 X3))
  obtain ⟨wz, hwz⟩ : ∃ wz, wf2.alloc (.cells #[.int .i64 0, .int .i32 0, .slice none 0 0, .bool false, .int .i64 0, .int .i64 0, .slice none 0 0] 26) = wz := ⟨_, rfl⟩
  rw [hwz] at Z1 Z2 e1 e2 e3 HEND
  rw [hwz]
  obtain ⟨p0, -, -, -, -, -, p6, -⟩ := row7 Z1
  obtain ⟨-, -, -, -, -, -, q6, -⟩ := row7 Z2
  clear X1 X2 X3 Y1 Y2 Z1 Z2 hwz
  go_wp2
  go_ret
  exact ⟨rfl, HEND.out⟩
end Go.Proofs.Ytkjiobbkbhmijaa.U
