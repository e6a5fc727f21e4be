/-
  The document's chars: runes put in. (MADE by wip/tools/gen_jchr.py.)
-/
import Derived.Test.YtfldjoiohejilaaJHdT
import Derived.Test.YtfldjoiohejilaaJLaws1
namespace Go.Proofs.Ytfldjoiohejilaa.U
open Go.RowKit
set_option linter.unusedVariables false
set_option linter.unusedSimpArgs false
set_option maxRecDepth 100000

theorem joinL_wfC {L : List (List Int)} (h : ∀ x ∈ L, ∀ y ∈ x, (Lit.int .i32 y).wf = true) : ∀ y ∈ joinL L, (Lit.int .i32 y).wf = true := by
  intro y hy
  unfold joinL at hy
  have h2 : y ∈ joinE L := List.dropLast_subset _ hy
  unfold joinE at h2
  obtain ⟨x, hx, hy2⟩ := List.mem_flatMap.1 h2
  rcases List.mem_append.1 hy2 with h3 | h3
  · exact h x hx y h3
  · simp at h3; subst h3; decide
/-- a row of runes that grows, behind the boxes -/
def TxS (wb : World) (ra : Option Addr) (m rc : Nat) (T : List Int) (W : World) : Prop := W.ownsRow wb.heap.size 21 1 (.slice ra m rc) m (ints T) ∧ Below wb.heap.size wb W
theorem TxS.below {wb W W' : World} {ra : Option Addr} {m rc : Nat} {T : List Int} (h : TxS wb ra m rc T W) (hb : Below W.heap.size W W') : TxS wb ra m rc T W' :=
  ⟨own_fr h.1 (Fr.of_below (fun _ => False) hb) (fun _ _ h => h), btr h.2 hb⟩
theorem TxS.app {wb W : World} {ra : Option Addr} {m rc : Nat} {T : List Int} (h : TxS wb ra m rc T W) {xa : Option Addr} {y xc : Nat} {x : List Int} (hx : Rd .i32 W xa y xc x) (hm : m + y ≤ 17592186044416) :
    ∃ a' c' w', (∀ ty, (Builtin.append_ #[35, 35] ty #[.slice ra m rc, .slice xa y xc]).run Try.prog W = .ok (.slice a' (m + y) c') w') ∧ TxS wb a' (m + y) c' (T ++ x) w' := by
  obtain ⟨a', c', w', h1, h2, h3⟩ := app_rd W wb.heap.size _ m T xa y xc x h.1 h.2.size hx hm
  exact ⟨a', c', w', h1, h2, h.2.trans h3⟩
/-- lines that grow, behind the boxes -/
def ChS (wb : World) (oa : Option Addr) (on oc : Nat) (O : List (List Int)) (W : World) : Prop := HdT wb.heap.size W oa on oc O ∧ Below wb.heap.size wb W
def BxC (b : Nat) (p1 p2 : Nat) (ga : Option Addr) (gn gc : Nat) (W : World) : Prop := W.cell? ⟨b, 0, none⟩ = some (.int .i64 (p1 : Nat)) ∧ W.cell? ⟨b, 1, none⟩ = some (.int .i64 (p2 : Nat)) ∧ W.cell? ⟨b + 1, 1, none⟩ = some (.slice ga gn gc) ∧ ArP (b + 2) W
set_option maxHeartbeats 8000000 in
theorem rchars_any (F G : Nat → Prop) (a : Option Addr) (n c : Nat) (L : List (List Int)) (ga : Option Addr) (gn gc : Nat) (GL : List (List Int)) (p1 p2 col : Nat) (k : Int) (m : Nat) (w : World) (h : RdL F w a n c L) (hs : sizeN (lens L) ≤ 65536) (hg : RdL G w ga gn gc GL) (hgs : sizeN (lens GL) ≤ 65536) (hp : okP L (p1, p2)) (hcol : col ≤ (lnL L p1).length) (hm : m * sizeN (lens GL) ≤ 262144) (hg0 : 0 < gn) (hm1 : m ≤ 65536) (hcl : charsL L (p1, p2) GL col m ≠ []) (hplain : plainL L) :
    Calls Try.prog 58 #[.slice a n c, .agg #[.int .i64 (p1 : Nat), .int .i64 (p2 : Nat)], .agg #[.int .i64 k, .slice ga gn gc], .int .i64 (col : Nat), .int .i64 (m : Nat)] w fun e w' => ∃ ra rn rc, e = .returned (.tuple #[.slice ra rn rc, plV (charsQ L (p1, p2) GL col m)]) ∧ RdL (fun x => w.heap.size ≤ x) w' ra rn rc (charsL L (p1, p2) GL col m) ∧ Below w.heap.size w w' := by
  have hl := h.len
  have hgl := hg.len
  have hcnt := size_count L
  have hp1 : p1 < n := by have := hp.1; omega
  obtain ⟨hpb1, hpb2⟩ := i64_okP h (by omega) hp
  simp only at hpb1 hpb2
  have hJ := joinL_len_le GL
  obtain ⟨J, hJe⟩ : ∃ J, (joinL GL).length = J := ⟨_, rfl⟩
  have hmJ : m * J ≤ 262144 := Nat.le_trans (Nat.mul_le_mul_left m (by omega)) hm
  obtain ⟨x, hx⟩ : ∃ x, L[p1]? = some x := ⟨_, List.getElem?_eq_getElem (by omega)⟩
  have hln : lnL L p1 = x := lnL_of hx
  rw [hln] at hcol
  have hxl : x.length ≤ 65536 := by
    have hm : x.length ∈ lens L := List.mem_map.2 ⟨_, List.mem_of_getElem? hx, rfl⟩
    have := sizeN_mem hm
    omega
  have hnc : n ≤ c ∧ c ≤ 9223372036854775807 := by obtain ⟨vs, h1, _⟩ := h; have := h1.2.1; have := h1.2.2.1; unfold maxLen at this; exact ⟨by omega, by omega⟩
  obtain ⟨hnc, hcs⟩ := hnc
  have hwx : ∀ y ∈ x, (Lit.int .i32 y).wf = true := lines_wf (rdl_wf h) x (List.mem_of_getElem? hx)
  obtain ⟨wb, hwb⟩ : ∃ wb, ((w.alloc (.cells #[.int .i64 (p1 : Nat), .int .i64 (p2 : Nat)] 24)).alloc (.cells #[.int .i64 k, .slice ga gn gc] 30)).alloc (.cells #[.int .i64 0, .int .i64 0] 24) = wb := ⟨_, rfl⟩
  have hsz : wb.heap.size = w.heap.size + 3 := by rw [← hwb]; simp
  have hB : Below w.heap.size w wb := by rw [← hwb]; exact (((Below.refl _ _).alloc (Nat.le_refl _) _).alloc (by simp) _).alloc (by simp; omega) _
  obtain ⟨g1, g2, g3⟩ := three_new w _ _ _ _ _ _ wb (by rw [← hwb]; exact Below.refl _ _)
  obtain ⟨b, hbe⟩ : ∃ b, w.heap.size = b := ⟨_, rfl⟩
  have HBE := Lib.hid hbe
  rw [hbe] at g1 g2 g3 hsz
  have KS : Hid (∀ W, Below wb.heap.size wb W → BxC b p1 p2 ga gn gc W) := fun W hW => ⟨cell_row (hbox g1 hW) 0, cell_row (hbox g1 hW) 1, cell_row (hbox g2 hW) 1, ArP.of (hbox g3 hW)⟩
  obtain ⟨lb, lo, xa, xc, rfl, hlb, -, hc, hrd, -, -⟩ := h.get hB hx
  have KX : Hid (∀ W, Below wb.heap.size wb W → W.cell? ⟨lb, lo + p1, none⟩ = some (.slice xa x.length xc) ∧ lb < W.heap.size ∧ Rd .i32 W xa x.length xc x) := fun W hW => ⟨(hW.cell (p := ⟨lb, lo + p1, none⟩) (by show lb < _; omega)).trans hc, by have := hW.size; omega, hrd.below hW⟩
  obtain ⟨y, hy⟩ : ∃ y, x.length = y := ⟨_, rfl⟩
  have hyc : y ≤ xc ∧ xc ≤ 9223372036854775807 := by have h1 := hrd.2.1; have h2 := hrd.2.2.1; unfold maxLen at h2; exact ⟨by omega, by omega⟩
  obtain ⟨hyc1, hyc2⟩ := hyc
  rw [hy] at KX hcol hxl
  -- the text
  have H1 : Hid (∀ ta : Option Addr, ta = xa → ∃ a1 c1 w1, Hid (∀ ty, (Builtin.append_ #[35, 35] ty #[.slice none 0 0, .slice ta col xc]).run Try.prog wb = .ok (.slice a1 col c1) w1) ∧ Hid (TxS wb a1 col c1 (x.take col ++ repL 0 (joinL GL)) w1)) := by
    rintro ta rfl
    obtain ⟨a', c', w', h1, h2⟩ := TxS.app (wb := wb) (W := wb) (ra := none) (m := 0) (rc := 0) (T := []) ⟨World.ownsRow_nil _ _ _ _, Below.refl _ _⟩ (((KX.out wb (Below.refl _ _)).2.2).take col hcol) (by omega)
    rw [Nat.zero_add] at h1 h2
    have e1 : x.take col ++ repL 0 (joinL GL) = [] ++ x.take col := by simp [repL]
    rw [e1]
    exact ⟨a', c', w', h1, h2⟩
  have HJ1 : Hid (∀ (W : World) (ra : Option Addr) (q rc : Nat) (T : List Int), Hid (TxS wb ra q rc T W) → q ≤ 1048576 → Calls Try.prog 35 #[.slice ga gn gc] W fun e w' => ∃ ja jc, e = .returned (.slice ja J jc) ∧ ∃ a' c' W', Hid (∀ ty, (Builtin.append_ #[35, 35] ty #[.slice ra q rc, .slice ja J jc]).run Try.prog w' = .ok (.slice a' (q + J) c') W') ∧ Hid (TxS wb a' (q + J) c' (T ++ joinL GL) W')) := by
    intro W ra q rc T hW hq
    refine (rjoined_any G ga gn gc GL W (hg.below (btr hB hW.out.2)) (by omega)).mono ?_
    rintro e w' ⟨ja, jc, rfl, ho, hb⟩
    have hwj : ∀ z ∈ joinL GL, (Lit.int .i32 z).wf = true := joinL_wfC (lines_wf (rdl_wf hg))
    obtain ⟨a', c', W', h1, h2⟩ := (hW.out.below hb).app (own_rd ho hwj) (by omega)
    rw [hJe] at h1 h2 ⊢
    exact ⟨ja, jc, rfl, a', c', W', h1, h2⟩
  obtain ⟨X, hX⟩ : ∃ X, charsX L (p1, p2) GL col m = X := ⟨_, rfl⟩
  have hXl : X.length = y + m * J := by
    have := charsX_len L (p1, p2) GL (col := col) m
    unfold runesR at this
    simp only [hln, hJe, hX, hy] at this
    exact this
  have hXe : x.take col ++ repL m (joinL GL) ++ x.drop col = X := by rw [← hX]; unfold charsX; simp only [hln]
  obtain ⟨dx, hdx⟩ : ∃ dx, (if xc = col then xa else xa.map (·.add (col * 1))) = dx := ⟨_, rfl⟩
  have H7 : Hid (∀ (W : World) (ra : Option Addr) (q rc : Nat), Hid (TxS wb ra q rc (x.take col ++ repL m (joinL GL)) W) → q = col + m * J → ∃ a1 c1 w1, Hid (∀ ty, (Builtin.append_ #[35, 35] ty #[.slice ra q rc, .slice dx (y - col) (xc - col)]).run Try.prog W = .ok (.slice a1 (q + (y - col)) c1) w1) ∧ Hid (TxS wb a1 (q + (y - col)) c1 X w1)) := by
    intro W ra q rc hW hq
    have hdr := ((KX.out W hW.out.2).2.2).drop col hcol
    rw [hdx] at hdr
    obtain ⟨a', c', w', h1, h2⟩ := hW.out.app hdr (by omega)
    rw [hXe] at h2
    exact ⟨a', c', w', h1, h2⟩
  have HTAKE : Hid (∀ (W : World) (ra : Option Addr) (q rc : Nat), Hid (TxS wb ra q rc X W) → Calls Try.prog 12 #[.slice (some ⟨lb, lo, none⟩) p1 c] W fun e w' => ∃ ta tc, e = .returned (.slice ta p1 tc) ∧ BxC b p1 p2 ga gn gc w' ∧ Hid (TxS wb ra q rc X w' ∧ ChS wb ta p1 tc (L.take p1) w')) := by
    intro W ra q rc hW
    refine (rtwin_any F _ p1 c (L.take p1) W ((h.below (btr hB hW.out.2)).take p1 (by omega)) (by have := size_take_le L p1; omega)).mono ?_
    rintro e w' ⟨ta, tc, rfl, hf, hb⟩
    exact ⟨ta, tc, rfl, KS.out _ (btr hW.out.2 hb), hW.out.below hb, hdt_my (hf.my hW.out.2.size) (fun x hx => lines_wf (rdl_wf h) x (List.mem_of_mem_take hx)), btr hW.out.2 hb⟩
  have hXw : ∀ z ∈ X, (Lit.int .i32 z).wf = true := by
    intro z hz
    rw [← hXe] at hz
    rcases List.mem_append.1 hz with hz | hz
    · rcases List.mem_append.1 hz with hz | hz
      · exact hwx z (List.mem_of_mem_take hz)
      · unfold repL at hz
        obtain ⟨l, hl2, hz2⟩ := List.mem_flatten.1 hz
        rw [List.eq_of_mem_replicate hl2] at hz2
        exact joinL_wfC (lines_wf (rdl_wf hg)) z hz2
    · exact hwx z (List.mem_of_mem_drop hz)
  obtain ⟨N, hN⟩ : ∃ N, (splitL X).length = N := ⟨_, rfl⟩
  have hNX : N ≤ X.length + 1 := by rw [← hN]; exact split_count X
  have HSPL : Hid (∀ (W : World) (ra : Option Addr) (q rc : Nat) (ta : Option Addr) (tc : Nat), Hid (TxS wb ra q rc X W ∧ ChS wb ta p1 tc (L.take p1) W) → Calls Try.prog 92 #[.slice ra q rc] W fun e w' => ∃ sa sc, e = .returned (.slice sa N sc) ∧ ∃ a' c' W', Hid (∀ ty, (Builtin.append_ #[22, 22] ty #[.slice ta p1 tc, .slice sa N sc]).run Try.prog w' = .ok (.slice a' (p1 + N) c') W') ∧ BxC b p1 p2 ga gn gc W' ∧ Hid (ChS wb a' (p1 + N) c' (L.take p1 ++ splitL X) W')) := by
    intro W ra q rc ta tc hW
    obtain ⟨h1, h2⟩ := hW.out
    have hrx := own_rd h1.1 hXw
    have hql := hrx.1
    refine (rsplit_any ra q rc X W hrx (by omega)).mono ?_
    rintro e w' ⟨sa, sc, rfl, hf, hb⟩
    obtain ⟨us, k1, k2⟩ := hdt_my (hf.my h1.2.size) (split_wf hXw)
    rw [hN] at k1 ⊢
    obtain ⟨a', c', W', e1, e2, e3, e4⟩ := hdt_app w' wb.heap.size ta p1 tc _ sa N sc us _ (h2.1.below hb) (Rc.own k1) k2 (btr h1.2 hb).size (by omega)
    have hbW := (btr h1.2 hb).trans e3
    exact ⟨sa, sc, rfl, a', c', W', e1, KS.out _ hbW, e2, hbW⟩
  obtain ⟨M, hM⟩ : ∃ M, charsL L (p1, p2) GL col m = M := ⟨_, rfl⟩
  have hMe : L.take p1 ++ splitL X ++ L.drop (p1 + 1) = M := by rw [← hM, ← hX]; rfl
  obtain ⟨K1, hK1⟩ : ∃ K1, p1 + 1 = K1 := ⟨_, rfl⟩
  rw [hK1] at hMe
  obtain ⟨dl, hdl, HRD⟩ : ∃ dl, (if c = K1 then some (⟨lb, lo, none⟩ : Addr) else (some (⟨lb, lo, none⟩ : Addr)).map (·.add (K1 * 1))) = dl ∧ Hid (∀ W, Below w.heap.size w W → RdL F W dl (n - K1) (c - K1) (L.drop K1)) := ⟨_, rfl, fun W hW => (h.below hW).drop K1 (by omega)⟩
  have HTD : Hid (∀ (W : World) (oa : Option Addr) (on oc : Nat), Hid (ChS wb oa on oc (L.take p1 ++ splitL X) W) → on ≤ 1048576 → Calls Try.prog 12 #[.slice dl (n - K1) (c - K1)] W fun e w' => ∃ ta tc, e = .returned (.slice ta (n - K1) tc) ∧ ∃ a' c' W', Hid (∀ ty, (Builtin.append_ #[22, 22] ty #[.slice oa on oc, .slice ta (n - K1) tc]).run Try.prog w' = .ok (.slice a' (on + (n - K1)) c') W') ∧ BxC b p1 p2 ga gn gc W' ∧ Hid (ChS wb a' (on + (n - K1)) c' M W')) := by
    intro W oa on oc hW hon
    refine (hW.out.1.rest F (HRD.out W (btr hB hW.out.2)) (by rw [lens_drop]; have := sizeN_drop_le2 (lens L) K1; omega) hW.out.2.size (by omega)).mono ?_
    rintro e w' ⟨ta, tc, rfl, hb, a', c', W', h1, h2, h3, -⟩
    have hbW := hW.out.2.trans h3
    rw [hMe] at h2
    exact ⟨ta, tc, rfl, a', c', W', h1, KS.out _ hbW, h2, hbW⟩
  have hMw : okP M (clipP M (p1 : Int) (col : Int)) ∨ True := Or.inr trivial
  have HEND : Hid (∀ (W : World) (oa : Option Addr) (on oc : Nat), Hid (ChS wb oa on oc M W) → ∀ u v, RdL (fun z => b ≤ z) ((W.setCell ⟨b + 2, 0, none⟩ u).setCell ⟨b + 2, 1, none⟩ v) oa on oc M ∧ Below b w ((W.setCell ⟨b + 2, 0, none⟩ u).setCell ⟨b + 2, 1, none⟩ v)) := by
    intro W oa on oc hW u v
    have hfr : Fr (fun k => k = b + 2) W ((W.setCell ⟨b + 2, 0, none⟩ u).setCell ⟨b + 2, 1, none⟩ v) := ((Fr.refl (fun k => k = b + 2) W).setCell ⟨b + 2, 0, none⟩ _ (fun _ => rfl)).setCell ⟨b + 2, 1, none⟩ _ (fun _ => rfl)
    have hbW := btr hB hW.out.2
    rw [hbe] at hbW
    exact ⟨(hW.out.1.rdl.frF hfr (fun k h1 h2 => by omega)).mono (fun k hk => by omega), Below.setCell (Below.setCell hbW (by show b ≤ b + 2; omega) _) (by show b ≤ b + 2; omega) _⟩
  have HCLP : Hid (∀ (W : World) (oa : Option Addr) (on oc : Nat) (v : Int), Hid (ChS wb oa on oc M W) → i64b v → Calls Try.prog 32 #[.slice oa on oc, .agg #[.int .i64 (p1 : Nat), .int .i64 v]] W fun e w' => e = .returned (plV (clipP M (p1 : Int) v)) ∧ BxC b p1 p2 ga gn gc w' ∧ Hid (ChS wb oa on oc M w')) := by
    intro W oa on oc v hW hv
    refine (rclip_any _ oa on oc M ⟨(p1 : Int), v⟩ W hW.out.1.rdl ⟨by show i64b (p1 : Int); unfold i64b; omega, hv⟩).mono ?_
    rintro e w' ⟨rfl, hb⟩
    exact ⟨rfl, KS.out _ (btr hW.out.2 hb), hW.out.1.below hb, btr hW.out.2 hb⟩
  have hxn : xa = none → xc = 0 ∧ y = 0 := fun e => ⟨hrd.2.2.2.2.1 e, by have := hrd.2.2.2.2.1 e; omega⟩
  obtain ⟨⟨Q1, Q2⟩, hQ⟩ : ∃ Q, charsQ L (p1, p2) GL col m = Q := ⟨_, rfl⟩
  rw [hQ, hM, hbe]
  unfold charsQ at hQ
  rw [hM] at hQ
  simp only [hgl] at hQ
  have HQ := Lib.hid hQ
  obtain ⟨a1, c1, w1, HRUN1, HT1⟩ := H1.out _ rfl
  have hK1i : (p1 : Int) + 1 = (K1 : Int) := by omega
  have hK1n : K1 ≤ n := by omega
  have hK1c : K1 ≤ c := by omega
  have hp1c : p1 ≤ c := by omega
  have hcolc : col ≤ xc := by omega
  have HW := Lib.hid hwb
  have HSB := Lib.hid hsz
  have hX6 : X.length ≤ 1048576 := by omega
  have hN6 : p1 + N ≤ 1048576 := by omega
  have hm9 := hm
  have HGG : Hid (gn = 1 → ∃ gb go ya yc, ga = some ⟨gb, go, none⟩ ∧ (lnL GL 0).length ≤ 65536 ∧ m * (lnL GL 0).length ≤ 262144 ∧ ∀ W, Below wb.heap.size wb W → W.cell? ⟨gb, go, none⟩ = some (.slice ya (lnL GL 0).length yc) ∧ gb < W.heap.size) := by
    intro e
    obtain ⟨z, hz⟩ : ∃ z, GL[0]? = some z := ⟨_, List.getElem?_eq_getElem (by omega)⟩
    obtain ⟨gb, go, ya, yc, e1, e2, -, e3, -, -, -⟩ := hg.get hB hz
    rw [lnL_of hz]
    have hm : z.length ∈ lens GL := List.mem_map.2 ⟨_, List.mem_of_getElem? hz, rfl⟩
    have := sizeN_mem hm
    refine ⟨gb, go, ya, yc, e1, by omega, Nat.le_trans (Nat.mul_le_mul_left m this) hm9, fun W hW => ⟨(hW.cell (p := ⟨gb, go, none⟩) (by show gb < _; omega)).trans (by rw [← e3]; rfl), by have := hW.size; omega⟩⟩
  obtain ⟨z0, z1, z2, z3⟩ := KS.out wb (Below.refl _ _)
  obtain ⟨x0, x1, -⟩ := KX.out wb (Below.refl _ _)
  clear h hs hg hgs hp hm hm9 hcl hplain hx hln hwb hB g1 g2 g3 hc hrd hXw hXe hN hNX hMe hMw hQ hM hX hJe hbe H1 hwx hJ hgl hl hcnt hlb
  go_enter Try.func58, Try.ntmps58
  go_upto_region 1 with fail
  rw [HBE.out, HW.out]
  go_upto_region 2 with fail
  go_cut [12] (fun v12 W => ∃ ra q rc, v12 = .slice ra q rc ∧ q = col ∧ Hid (TxS wb ra q rc (x.take col ++ repL 0 (joinL GL)) W))
  case first =>
    cases xa with
    | none =>
      obtain ⟨rfl, rfl⟩ := hxn rfl
      obtain rfl : col = 0 := by omega
      go_wp2_with (at_builtin; go_must (with_reducible refine Lib.wpList_append_run _ rfl (.tmp 16) (.tmp 23) _ _ rfl _ _ rfl rfl _ _ (HRUN1.out _) ?_))
      go_meet
      exact ⟨_, _, _, rfl, rfl, HT1⟩
    | some xp =>
      go_wp2_with (at_builtin; go_must (with_reducible refine Lib.wpList_append_run _ rfl (.tmp 16) (.tmp 23) _ _ rfl _ _ rfl rfl _ _ (HRUN1.out _) ?_))
      go_meet
      exact ⟨_, _, _, rfl, rfl, HT1⟩
  case rest =>
    obtain ⟨ra, q, rc, rfl, hq, HT⟩ := hcut
    clear z0 z1 z2 z3 x0 x1 HRUN1 HT1
    go_upto_region 4 with fail
    go_loopw [12, 13] (fun v12 v13 W => ∃ (i q : Nat) (ra : Option Addr) (rc : Nat), v12 = .slice ra q rc ∧ v13 = .int .i64 (i : Nat) ∧ i ≤ m ∧ q ≤ 1048576 ∧ Hid (q = col + i * J ∧ TxS wb ra q rc (x.take col ++ repL i (joinL GL)) W)) (fun _ v13 _ => m - (intOf v13).toNat)
    case atStart => exact ⟨0, q, ra, rc, rfl, rfl, Nat.zero_le _, by omega, by omega, HT.out⟩
    case round =>
      obtain ⟨i, q, ra, rc, rfl, rfl, him, hq6, hst⟩ := hrel
      clear HT hq
      have HTX : Hid (TxS wb ra q rc (x.take col ++ repL i (joinL GL)) wr) := hst.out.2
      have hqe := hst.out.1
      obtain ⟨z0, z1, z2, z3⟩ := KS.out wr HTX.out.2
      obtain ⟨x0, x1, -⟩ := KX.out wr HTX.out.2
      clear hst
      by_cases hlt : i < m
      · have hq7 : q + J = col + (i + 1) * J := by rw [Nat.add_mul, Nat.one_mul]; omega
        have hq8 : (i + 1) * J ≤ m * J := Nat.mul_le_mul_right _ (by omega)
        have hq9 : q + J ≤ 1048576 := by omega
        have HQ7 := Lib.hid hq7
        clear hq7 hqe
        go_wp2_with (first
          | (at_builtin; go_must (with_reducible refine Lib.wpList_append_run _ rfl (.tmp 30) (.tmp 33) _ _ rfl _ _ rfl rfl _ _ (HRUN3.out _) ?_))
          | (go_at_call 35; (refine (HJ1.out _ _ _ _ _ HTX hq6).mono ?_); rintro e w6 ⟨t5, t6, rfl, a4, c4, w7, HRUN3, HN⟩))
        go_roundw
        case rel => exact ⟨i + 1, q + J, a4, c4, rfl, by go_num, by omega, hq9, HQ7.out, by rw [repL_succ, ← List.append_assoc]; exact HN.out⟩
        case measure => simp [intOf]; omega
      · obtain rfl : i = m := by omega
        obtain ⟨a5, c5, w5, HRUN5, HT5⟩ := H7.out wr ra q rc HTX hqe
        clear hqe
        go_upto_region 7 with fail
        go_cut [12] (fun v12 W => ∃ ra q rc, v12 = .slice ra q rc ∧ Hid (TxS wb ra q rc X W))
        case first =>
          cases xa with
          | none =>
            obtain ⟨rfl, rfl⟩ := hxn rfl
            obtain rfl : col = 0 := by omega
            rw [if_pos rfl] at hdx
            subst hdx
            go_wp2_with (at_builtin; go_must (with_reducible refine Lib.wpList_append_run _ rfl (.tmp 35) (.tmp 42) _ _ rfl _ _ rfl rfl _ _ (HRUN5.out _) ?_))
            go_meet
            exact ⟨_, _, _, rfl, HT5⟩
          | some xp =>
            by_cases hxcc : xc = col
            · rw [if_pos hxcc] at hdx
              subst hdx
              subst hxcc
              obtain rfl : y = xc := by omega
              simp only [Nat.sub_self, Nat.add_zero] at HRUN5 HT5
              go_wp2_with (at_builtin; go_must (with_reducible refine Lib.wpList_append_run _ rfl (.tmp 35) (.tmp 42) _ _ rfl _ _ rfl rfl _ _ (HRUN5.out _) ?_))
              go_meet
              exact ⟨_, _, _, rfl, HT5⟩
            · rw [if_neg hxcc] at hdx
              simp only [Option.map_some, Nat.mul_one] at hdx
              subst hdx
              go_wp2_with (at_builtin; go_must (with_reducible refine Lib.wpList_append_run _ rfl (.tmp 35) (.tmp 42) _ _ rfl _ _ rfl rfl _ _ (HRUN5.out _) ?_))
              go_meet
              exact ⟨_, _, _, rfl, HT5⟩
        case rest =>
          obtain ⟨ra, q, rc, rfl, HT6⟩ := hcut
          clear HRUN5 HT5 HTX x0 x1 z0 z1 z2 z3
          obtain ⟨w6, hw6⟩ : ∃ w6, w6 = wc := ⟨_, rfl⟩
          subst hw6
          obtain ⟨z0, z1, z2, z3⟩ := KS.out w6 HT6.out.2
          unfold BxC at HTAKE HSPL HTD HCLP
          go_upto_region 10 with (first
            | (at_builtin; go_must (with_reducible refine Lib.wpList_append_run _ rfl (.tmp 49) (.tmp 51) _ _ rfl _ _ rfl rfl _ _ (HRUN8.out _) ?_))
            | (go_at_call 12; (refine (HTAKE.out _ _ _ _ HT6).mono ?_); rintro e w7 ⟨ta, tc, rfl, ⟨k0, k1, k2, k3⟩, H7b⟩)
            | (go_at_call 92; (refine (HSPL.out _ _ _ _ _ _ H7b).mono ?_); rintro e w8' ⟨sa, sc, rfl, a8, c8, w8, HRUN8, ⟨l0, l1, l2, l3⟩, H8⟩))
          go_cut [14] (fun v14 W => ∃ oa on oc, v14 = .slice oa on oc ∧ Hid (ChS wb oa on oc M W))
          case first =>
            by_cases hcK : c = K1
            · rw [if_pos hcK] at hdl
              subst hdl
              have hnK : n - K1 = 0 := by omega
              subst hcK
              simp only [Nat.sub_self, hnK, Nat.add_zero] at HTD
              go_wp2_with (first
                | (at_builtin; go_must (with_reducible refine Lib.wpList_append_run _ rfl (.tmp 53) (.tmp 59) _ _ rfl _ _ rfl rfl _ _ (HRUN9.out _) ?_))
                | (go_at_call 12; (refine (HTD.out _ _ _ _ H8 hN6).mono ?_); rintro e w9' ⟨ta2, tc2, rfl, a9, c9, w9, HRUN9, -, H9⟩))
              go_meet
              exact ⟨_, _, _, rfl, H9⟩
            · rw [if_neg hcK] at hdl
              simp only [Option.map_some, Nat.mul_one, add_lit] at hdl
              subst hdl
              go_wp2_with (first
                | (at_builtin; go_must (with_reducible refine Lib.wpList_append_run _ rfl (.tmp 53) (.tmp 59) _ _ rfl _ _ rfl rfl _ _ (HRUN9.out _) ?_))
                | (go_at_call 12; (refine (HTD.out _ _ _ _ H8 hN6).mono ?_); rintro e w9' ⟨ta2, tc2, rfl, a9, c9, w9, HRUN9, -, H9⟩))
              go_meet
              exact ⟨_, _, _, rfl, H9⟩
          case rest =>
            obtain ⟨oa, on, oc, rfl, H9⟩ := hcut
            obtain ⟨w9, hw9⟩ : ∃ w9, w9 = wc := ⟨_, rfl⟩
            subst hw9
            clear HT6 z0 z1 z2 z3
            obtain ⟨z0, z1, z2, z3⟩ := KS.out w9 H9.out.2
            have hb0 : b < w9.heap.size := by have := H9.out.2.size; have := HSB.out; omega
            have hb1 : b + 1 < w9.heap.size := by have := H9.out.2.size; have := HSB.out; omega
            have hb2 : b + 2 < w9.heap.size := by have := H9.out.2.size; have := HSB.out; omega
            have HQe := HQ.out
            by_cases hg1 : gn = 1
            · obtain ⟨gb, go, ya, yc, hga, hJ0, hmJ0, HGC⟩ := HGG.out hg1
              obtain ⟨hgc, hgbl⟩ := HGC w9 H9.out.2
              rw [if_pos hg1] at HQe
              obtain ⟨J0, hJ0e⟩ : ∃ J0, (lnL GL 0).length = J0 := ⟨_, rfl⟩
              rw [hJ0e] at hJ0 hmJ0 hgc HQe
              have hz0 : lnL GL 0 = [] ↔ J0 = 0 := by rw [← hJ0e]; exact List.length_eq_zero_iff.symm
              subst hg1
              clear HGC
              by_cases hJz : J0 = 0
              · rw [if_pos (hz0.2 hJz)] at HQe
                subst hJz
                have HCQ : Hid (∀ W, Hid (ChS wb oa on oc M W) → Calls Try.prog 32 #[.slice oa on oc, .agg #[.int .i64 (p1 : Nat), .int .i64 ((p2 : Nat) : Int)]] W fun e w' => e = .returned (.agg #[.int .i64 (Q1 : Nat), .int .i64 (Q2 : Nat)]) ∧ (w'.cell? ⟨b, 0, none⟩ = some (.int .i64 (p1 : Nat)) ∧ w'.cell? ⟨b, 1, none⟩ = some (.int .i64 (p2 : Nat)) ∧ w'.cell? ⟨b + 1, 1, none⟩ = some (.slice ga 1 gc) ∧ ArP (b + 2) w') ∧ Hid (ChS wb oa on oc M w')) := by
                  intro W hW
                  have h5 := HCLP.out W oa on oc ((p2 : Nat) : Int) hW (by unfold i64b; omega)
                  rw [HQe] at h5
                  exact h5
                subst hga
                clear HGG HQe HQ HCLP HTD HSPL HTAKE HJ1 H7 H8 hz0 hJ0e
                go_wp2_with (go_at_call 32; (refine (HCQ.out _ (Lib.hid ⟨H9.out.1.below (bal _ _), btr H9.out.2 (bal _ _)⟩)).mono ?_); rintro e wq ⟨rfl, ⟨k0, k1, k2, ⟨k3, k4, k5, k6, k7⟩⟩, HQ9⟩)
                refine bodyPost_ret (v := .tuple #[.slice oa on oc, plV (Q1, Q2)]) ?_ rfl ?_
                · rw [results_tc rfl]
                  go_simp
                  first | rfl | done
                · exact ⟨_, _, _, rfl, (HEND.out _ _ _ _ HQ9 _ _).1, (HEND.out _ _ _ _ HQ9 _ _).2⟩
              · rw [if_neg (fun e => hJz (hz0.1 e))] at HQe
                obtain ⟨MJ, hMJ⟩ : ∃ MJ, i * J0 = MJ := ⟨_, rfl⟩
                rw [hMJ] at hmJ0 HQe
                have hmi : (i : Int) * (J0 : Int) = (MJ : Int) := by rw [← hMJ]; push_cast; rfl
                obtain ⟨CM, hCM⟩ : ∃ CM, col + MJ = CM := ⟨_, rfl⟩
                have hci : (col : Int) + (MJ : Int) = (CM : Int) := by omega
                rw [hCM] at HQe
                have hCMb : CM ≤ 1048576 := by omega
                have hw1 : IntKind.i64.wrap ((i : Int) * (J0 : Int)) = (MJ : Int) := by rw [hmi, IntKind.wrap_i64]; omega
                have hw2 : IntKind.i64.wrap ((col : Int) + (MJ : Int)) = (CM : Int) := by rw [hci, IntKind.wrap_i64]; omega
                have hw3 : IntKind.i64.wrap ((CM : Int) - 1) = (CM : Int) - 1 := by rw [IntKind.wrap_i64]; omega
                have hJz2 : ¬ ((J0 : Int) = 0) := by omega
                have hJz3 : ((J0 : Int) == 0) = false := by simpa using hJz
                have HCQ : Hid (∀ W, Hid (ChS wb oa on oc M W) → Calls Try.prog 32 #[.slice oa on oc, .agg #[.int .i64 (p1 : Nat), .int .i64 (((CM : Nat) : Int) - 1)]] W fun e w' => e = .returned (.agg #[.int .i64 (Q1 : Nat), .int .i64 (Q2 : Nat)]) ∧ (w'.cell? ⟨b, 0, none⟩ = some (.int .i64 (p1 : Nat)) ∧ w'.cell? ⟨b, 1, none⟩ = some (.int .i64 (p2 : Nat)) ∧ w'.cell? ⟨b + 1, 1, none⟩ = some (.slice ga 1 gc) ∧ ArP (b + 2) w') ∧ Hid (ChS wb oa on oc M w')) := by
                  intro W hW
                  have h5 := HCLP.out W oa on oc (((CM : Nat) : Int) - 1) hW (by unfold i64b; omega)
                  rw [HQe] at h5
                  exact h5
                subst hga
                clear HGG HQe HQ HCLP HTD HSPL HTAKE HJ1 H7 H8 hz0 hJ0e hmi hci hMJ hCM
                go_wp2_with (go_at_call 32; (refine (HCQ.out _ (Lib.hid ⟨H9.out.1.below (bal _ _), btr H9.out.2 (bal _ _)⟩)).mono ?_); rintro e wq ⟨rfl, ⟨k0, k1, k2, ⟨k3, k4, k5, k6, k7⟩⟩, HQ9⟩)
                refine bodyPost_ret (v := .tuple #[.slice oa on oc, plV (Q1, Q2)]) ?_ rfl ?_
                · rw [results_tc rfl]
                  go_simp
                  first | rfl | done
                · exact ⟨_, _, _, rfl, (HEND.out _ _ _ _ HQ9 _ _).1, (HEND.out _ _ _ _ HQ9 _ _).2⟩
            · rw [if_neg hg1] at HQe
              have hg2 : ¬ ((gn : Int) = 1) := by omega
              have hg3 : ((gn : Int) == 1) = false := by rw [beq_eq_false_iff_ne]; omega
              have HCQ : Hid (∀ W, Hid (ChS wb oa on oc M W) → Calls Try.prog 32 #[.slice oa on oc, .agg #[.int .i64 (p1 : Nat), .int .i64 ((col : Nat) : Int)]] W fun e w' => e = .returned (.agg #[.int .i64 (Q1 : Nat), .int .i64 (Q2 : Nat)]) ∧ (w'.cell? ⟨b, 0, none⟩ = some (.int .i64 (p1 : Nat)) ∧ w'.cell? ⟨b, 1, none⟩ = some (.int .i64 (p2 : Nat)) ∧ w'.cell? ⟨b + 1, 1, none⟩ = some (.slice ga gn gc) ∧ ArP (b + 2) w') ∧ Hid (ChS wb oa on oc M w')) := by
                intro W hW
                have h5 := HCLP.out W oa on oc ((col : Nat) : Int) hW (by unfold i64b; omega)
                rw [HQe] at h5
                exact h5
              clear HGG HQe HQ HCLP HTD HSPL HTAKE HJ1 H7 H8
              go_wp2_with (go_at_call 32; (refine (HCQ.out _ (Lib.hid ⟨H9.out.1.below (bal _ _), btr H9.out.2 (bal _ _)⟩)).mono ?_); rintro e wq ⟨rfl, ⟨k0, k1, k2, ⟨k3, k4, k5, k6, k7⟩⟩, HQ9⟩)
              refine bodyPost_ret (v := .tuple #[.slice oa on oc, plV (Q1, Q2)]) ?_ rfl ?_
              · rw [results_tc rfl]
                go_simp
                first | rfl | done
              · exact ⟨_, _, _, rfl, (HEND.out _ _ _ _ HQ9 _ _).1, (HEND.out _ _ _ _ HQ9 _ _).2⟩
end Go.Proofs.Ytfldjoiohejilaa.U
