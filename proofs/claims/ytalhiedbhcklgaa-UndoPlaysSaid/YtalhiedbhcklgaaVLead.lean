/-
  The contract of lead.
-/
import Derived.Test.YtalhiedbhcklgaaVLm
import Derived.Test.YtalhiedbhcklgaaVIn
import Derived.Test.YtalhiedbhcklgaaVWl
namespace Go.Proofs.Ytalhiedbhcklgaa.U
open Go.RowKit Go.Shelf
set_option linter.unusedVariables false
set_option linter.unusedSimpArgs false
set_option maxRecDepth 100000
attribute [local go_sem] Oper.semAt_some

def mark (D : Nat) : Deferred := { target := .collected D, args := #[] }
/-- the number in a box -/
def numAt (W : World) (v : Value) : Nat := match v with
  | .pointer (some ad) => (match W.cell? ad with
    | some (.int _ z) => z.toNat
    | _ => 0)
  | _ => 0
theorem numAt_eq {W : World} {f a : Nat} (h : W.cell? ⟨f, 0, none⟩ = some (.int .i64 (a : Nat))) : numAt W (.pointer (some ⟨f, 0, none⟩)) = a := by
  unfold numAt
  simp [h]
/-- the numbers of the way -/
structure WayN (t : Tr) (tt : Nat) (m a b : Nat) (ws : List Ch) (dn : List Nat) : Prop where
  la : a ≤ t.nodes.length
  lb : b ≤ t.nodes.length
  mb : m + b ≤ t.nodes.length
  eq : t.way t.here tt = ws ++ (t.way a b ++ dn.reverse.flatMap t.chs)

theorem leaves_marks {F : Fence} {n : Nat} {Q : Program} {fn : Func} {tmps : Array Value} {R : Ending → World → Prop} : ∀ (ds : List Nat) (w : World), (∀ D ∈ ds, w.heap[D]? = some (.deferred (some []))) → ds.Nodup →
    (∀ w', KeepC w w' → Fr (fun k => k ∈ ds) w w' → LeavesInM F n Q fn tmps R [] .returning w') → LeavesInM F n Q fn tmps R (ds.map mark) .returning w
  | [], w, h1, h2, h3 => h3 w (fun _ _ _ _ _ => rfl) (Fr.refl (fun k => k ∈ []) w)
  | D :: ds, w, h1, h2, h3 => by
    have hD := h1 D (List.mem_cons_self ..)
    obtain ⟨n1, n2⟩ := List.nodup_cons.1 h2
    have hne : ∀ k ∈ ds, k ≠ D := fun k hk e => n1 (e ▸ hk)
    have hk0 : KeepC w (w.putObj D (.deferred none)) := keepC_put _ hD (fun _ _ _ e => by cases e)
    have hf0 : Fr (fun k => k = D) w (w.putObj D (.deferred none)) := ⟨rfl, rfl, rfl, by simp [World.putObj], fun k _ hk => World.putObj_heap_other hk⟩
    refine ⟨by simp, .inl ⟨D, _, rfl, run_takeDeferred hD, leaves_marks ds _ (fun k hk => (World.putObj_heap_other (hne k hk)).trans (h1 k (List.mem_cons_of_mem _ hk))) n2 (fun w' hk hf => h3 w' ?_ ?_)⟩⟩
    · intro k cur t z hc
      exact (hk k cur t z ((hk0 k cur t z hc).trans hc)).trans (hk0 k cur t z hc)
    · exact (hf0.mono (fun x _ e => by rw [e]; exact List.mem_cons_self ..)).trans hf (fun x _ e => List.mem_cons_of_mem _ e)

def leadA (tmps : Array Value) (ds : List Nat) : Act := { tmps := tmps, defers := ds.map mark }

set_option maxHeartbeats 8000000 in
theorem lead_any {P F : Nat → Prop} {w : World} {bt : Nat} {t : Tr} (h : TreeC P F w bt t) (tt : Nat) (hto : tt ≤ t.nodes.length) :
    Calls Try.prog 46 #[.pointer (some ⟨bt, 0, none⟩), .int .i64 (tt : Nat)] w fun e w' => ∃ a c, e = .returned (.slice a (t.way t.here tt).length c) ∧ FreshCs w.heap.size w' a (t.way t.here tt).length c (t.way t.here tt) ∧ TreeC P F w' bt { t with here := tt } ∧ Fr (fun k => k = bt) w w' := by
  obtain ⟨nd, ndc, ga, gc, c0, c1, c2, c3, z0, z1, z2, z3, hl⟩ := h.cells
  have hmf : ∀ (fn : Fn) (first cap : Array Value) (w : World), (Instr.makeFunc fn first cap).run Try.prog w = .ok (.func fn first cap) w := fun _ _ _ _ => rfl
  have H := Lib.hid h
  have hN : t.nodes.length ≤ 4096 := h.ok.1
  obtain ⟨W0, hW0⟩ : ∃ W0, ((((w.alloc (.cells #[.pointer (some ⟨bt, 0, none⟩)] 37)).alloc (.cells #[.slice none 0 0] 41)).alloc (.cells #[.int .i64 (t.here : Nat)] 3)).alloc (.cells #[.int .i64 (tt : Nat)] 3)) = W0 := ⟨_, rfl⟩
  have hLM : LM F w bt t w.heap.size (w.heap.size + 1) (w.heap.size + 2) (w.heap.size + 3) none 0 0 [] t.here tt [] none 0 [] [] W0 := by
    have hb0 : Below w.heap.size w W0 := by rw [← hW0]; exact ((((Below.refl _ _).alloc (Nat.le_refl _) _).alloc (by simp) _).alloc (by first | (simp; done) | (simp; omega)) _).alloc (by first | (simp; done) | (simp; omega)) _
    have hsz : W0.heap.size = w.heap.size + 4 := by rw [← hW0]; simp
    exact {
      bel := hb0
      c2 := by rw [← hW0, Below.heap_alloc _ _ _ (by first | (simp; done) | (simp; omega)), Below.heap_alloc _ _ _ (by first | (simp; done) | (simp; omega)), Below.heap_alloc _ _ _ (by simp), heap_alloc_new]
      c6 := by
        rw [← hW0, Below.heap_alloc _ _ _ (by first | (simp; done) | (simp; omega)), Below.heap_alloc _ _ _ (by simp)]
        have := heap_alloc_new (w.alloc (.cells #[.pointer (some ⟨bt, 0, none⟩)] 37)) (.cells #[.slice none 0 0] 41)
        simpa using this
      row := FreshCs.nil _ _ (by omega)
      cf := by
        rw [← hW0, Below.heap_alloc _ _ _ (by simp)]
        have := heap_alloc_new ((w.alloc (.cells #[.pointer (some ⟨bt, 0, none⟩)] 37)).alloc (.cells #[.slice none 0 0] 41)) (.cells #[.int .i64 (t.here : Nat)] 3)
        simpa using this
      cg := by
        rw [← hW0]
        have := heap_alloc_new (((w.alloc (.cells #[.pointer (some ⟨bt, 0, none⟩)] 37)).alloc (.cells #[.slice none 0 0] 41)).alloc (.cells #[.int .i64 (t.here : Nat)] 3)) (.cells #[.int .i64 (tt : Nat)] 3)
        simpa using this
      fg := by omega
      down := World.ownsRow_nil _ _ _ _
      heads := ⟨rfl, fun i hd d e => by simp at e⟩
      apart := by simp [Value.ownBlock]
      nodup := List.nodup_nil
      marks := fun D hD => by cases hD
      low := ⟨Nat.le_refl _, by omega, by omega, by omega⟩ }
  have hWN : WayN t tt 0 t.here tt [] [] := ⟨h.ok.2.1, hto, by omega, by simp⟩
  have HLM := Lib.hid hLM
  have HW0 := Lib.hid hW0
  have HWN := Lib.hid hWN
  clear hLM hW0 hWN h c0 c2 c3 z0 z2 z3
  refine (callsIn_wide (n := 6)).1 ?_
  refine callsIn_of_wp_marks Try.func46 rfl trivial ?_ rfl
  simp only [Try.ntmps46, List.size_toArray, List.length_cons, List.length_nil, Nat.reduceAdd, Nat.reduceSub, Array.replicate_succ, Array.replicate_zero, List.push_toArray, List.append_toArray, List.nil_append, List.cons_append]
  gi_wp2
  rw [HW0.out]
  refine wpIn_loop (fun a' W => ∃ (f g m dc : Nat) (da : Option Addr) (ds : List Nat) (a b : Nat) (ws : List Ch) (ra : Option Addr) (rc : Nat) (hs : List Hdr) (dn : List Nat) (u11 u22 u23 u24 u25 u26 u27 u28 u29 u30 u31 u32 u33 u34 u35 u36 u37 u38 u39 u40 u41 u42 u43 u44 : Value),
      Hid (LM F w bt t w.heap.size (w.heap.size + 1) f g da m dc ds a b ws ra rc hs dn W) ∧ Hid (WayN t tt m a b ws dn) ∧
      a' = { tmps := #[.pointer (some ⟨bt, 0, none⟩), .int .i64 (tt : Nat), .pointer (some ⟨w.heap.size, 0, none⟩), undef, .slice none 0 0, .func (.func 52) #[] #[.pointer (some ⟨w.heap.size, 0, none⟩)],
        .pointer (some ⟨w.heap.size + 1, 0, none⟩), .slice da m dc, .pointer (some ⟨f, 0, none⟩), .pointer (some ⟨g, 0, none⟩), undef, u11, undef, undef, undef, undef,
        .func (.func 52) #[] #[.pointer (some ⟨w.heap.size, 0, none⟩)], .pointer (some ⟨bt, 0, none⟩), .pointer (some ⟨bt, 0, none⟩), .pointer (some ⟨bt, 1, none⟩), .int .i64 (t.here : Nat), .int .i64 (tt : Nat),
        u22, u23, u24, u25, u26, u27, u28, u29, u30, u31, u32, u33, u34, u35, u36, u37, u38, u39, u40, u41, u42, u43, u44,
        undef, undef, undef, undef, undef, undef, undef, undef, undef, undef, undef, undef, undef, undef, undef, undef, undef, undef, undef, undef, undef], defers := ds.map mark })
    (fun a' W => numAt W (a'.tmps.getD 8 undef) + numAt W (a'.tmps.getD 9 undef)) ?start ?round
  case start =>
    refine ⟨w.heap.size + 2, w.heap.size + 3, 0, 0, none, [], t.here, tt, [], none, 0, [], [], undef, undef, undef, undef, undef, undef, undef, undef, undef, undef, undef, undef, undef, undef, undef, undef, undef, undef, undef, undef, undef, undef, undef, undef, HLM, HWN, ?_⟩
    rfl
  case round =>
    rintro a' W ⟨f, g, m, dc, da, ds, a, b, ws, ra, rc, hs, dn, u11, u22, u23, u24, u25, u26, u27, u28, u29, u30, u31, u32, u33, u34, u35, u36, u37, u38, u39, u40, u41, u42, u43, u44, hLM, hWN, rfl⟩
    clear HLM HW0 HWN
    have cf := cell_row hLM.out.cf 0
    have cg := cell_row hLM.out.cg 0
    have lf := heap_lt hLM.out.cf
    have lg := heap_lt hLM.out.cg
    have cf : W.cell? ⟨f, 0, none⟩ = some (.int .i64 (a : Nat)) := cf
    have cg : W.cell? ⟨g, 0, none⟩ = some (.int .i64 (b : Nat)) := cg
    rcases Nat.lt_trichotomy a b with hab | hab | hab
    · have t1 : ((a : Int) != (b : Int)) = true := by simp; omega
      have t2 : (a : Int) < (b : Int) := by omega
      have hb0 : b ≠ 0 := by omega
      obtain ⟨gn, nnc, na, nc, q0, q1, q2, q3, q4, q5⟩ := H.out.node (Below.refl _ w) hb0 hWN.out.lb
      have hbel := hLM.out.bel
      have hws := hbel.size
      have hlow := hLM.out.low
      have HUP := Lib.hid (up_any hN hWN.out.lb ((hbel.cell (p := ⟨bt, 0, none⟩) hl).trans q0) (by omega) ((hbel.cell (p := ⟨gn, b * 3, none⟩) q1).trans q2) ((hbel.cell (p := ⟨gn, b * 3 + 1, none⟩) q1).trans q3) ((hbel.cell (p := ⟨gn, b * 3 + 2, none⟩) q1).trans q4) (by omega) hLM.out.cg (by omega) (cell_row hLM.out.c2 0) (fun e => by have := hLM.out.c2; rw [e, hLM.out.cg] at this; simp at this))
      have hmN : m ≤ 4096 := by have := hWN.out.mb; omega
      have H5 := Lib.hid q5
      clear q0 q1 q2 q3 q4 q5 hbel
      gi_wp2
      refine ⟨trivial, (callsIn_wide.2 HUP.out).mono ?_⟩
      rintro e W1 ⟨rfl, hU⟩
      have hLM1 := Lib.hid (hLM.out.upG hU.out.1 hU.out.2)
      obtain ⟨da', dc', W2, hrun, hLM2⟩ := hLM1.out.push H5.out hb0 hWN.out.lb (by omega)
      have HRUN := Lib.hid hrun
      have HLM2 := Lib.hid hLM2
      clear hrun hLM2 HUP
      obtain ⟨W4, hW4⟩ : ∃ W4, ((W2.alloc (.cells #[.int .i64 (a : Nat)] 3)).alloc (.cells #[.int .i64 (t.up b : Nat)] 3)) = W4 := ⟨_, rfl⟩
      have HLM4 := Lib.hid HLM2.out.boxes
      rw [hW4] at HLM4
      have k1 := cell_row HLM2.out.cf 0
      have k2 := cell_row HLM2.out.cg 0
      have k1 : W2.cell? ⟨f, 0, none⟩ = some (.int .i64 (a : Nat)) := k1
      have k2 : W2.cell? ⟨g, 0, none⟩ = some (.int .i64 (t.up b : Nat)) := k2
      have l1 := heap_lt HLM2.out.cf
      have l2 := heap_lt HLM2.out.cg
      obtain ⟨L, hL⟩ : ∃ L, (t.chs b).length = L := ⟨_, rfl⟩
      rw [hL] at HRUN ⊢
      gi_wp2_with (gi_at_builtin; refine wpListIn_append_run rfl (.tmp 28) (.tmp 31) _ _ rfl _ _ rfl rfl (HRUN.out _) ?_)
      have hub := Tr.up_lt H.out.ok hb0 hWN.out.lb
      have hms : numAt W4 (.pointer (some ⟨W2.heap.size, 0, none⟩)) + numAt W4 (.pointer (some ⟨W2.heap.size + 1, 0, none⟩)) < numAt W (.pointer (some ⟨f, 0, none⟩)) + numAt W (.pointer (some ⟨g, 0, none⟩)) := by
        rw [numAt_eq (cell_row HLM4.out.cf 0), numAt_eq (cell_row HLM4.out.cg 0), numAt_eq cf, numAt_eq cg]
        omega
      refine ⟨⟨W2.heap.size, W2.heap.size + 1, m + 1, dc', da', ds, a, t.up b, ws, ra, rc, hs ++ [(na, (t.chs b).length, nc)], dn ++ [b], u11, _, _, _, _, _, _, _, _, _, _, _, _, _, _, _, _, _, _, _, _, _, _, _, HLM4, ⟨hWN.out.la, by have := hWN.out.lb; omega, by have := hWN.out.mb; omega, ?_⟩, rfl⟩, hms⟩
      rw [hWN.out.eq, Tr.way_down H.out.ok hWN.out.lb hab, List.reverse_append, List.reverse_cons, List.reverse_nil, List.nil_append, List.singleton_append, List.flatMap_cons, List.append_assoc]
    · subst hab
      have t1 : ((a : Int) != (a : Int)) = false := by simp
      have hbel := hLM.out.bel
      have hws := hbel.size
      have hlow := hLM.out.low
      gi_wp2
      refine ⟨trivial, (callsIn_wide.2 (backwardG_any _ _ _ _)).mono ?_⟩
      rintro e W1 ⟨rfl, hW1⟩
      have hb01 : Below W.heap.size W W1 := by rw [hW1]; exact (Below.refl _ _).alloc (Nat.le_refl _) _
      have hs1 : W1.heap.size = W.heap.size + 1 := by rw [hW1]; simp
      have hBl : W1.heap[W.heap.size]? = some (.cells #[.slice da m dc] 86 (0, 0)) := by rw [hW1]; exact heap_alloc_new W _
      have HLM1 := Lib.hid (hLM.out.below hb01)
      clear hW1
      gi_wp2
      have hR := Rc.own HLM1.out.down
      have hmlen := hLM.out.mlen
      have hdlt : ∀ D ∈ ds, D < W1.heap.size := fun D hD => heap_lt (HLM1.out.marks D hD).2
      have hwl : (ws ++ dn.reverse.flatMap t.chs).length ≤ 1099511627776 := by
        have h1 := Tr.way_len H.out.ok H.out.lim _ _ _ (Nat.le_refl _) H.out.ok.2.1 hto
        have h2 := H.out.ok.2.1
        rw [hWN.out.eq, Tr.way_self H.out.ok, List.nil_append] at h1
        omega
      have hdnmap : (Go.Proofs.Ytalhiedbhcklgaa.U.dn m).flatMap (fun i => t.chs (dn.getD i 0)) = dn.reverse.flatMap t.chs := by
        have h1 := dn_map (fun i => dn.getD i 0) dn (fun i x hx => by rw [List.getD_eq_getElem?_getD, hx, Option.getD_some])
        rw [hmlen.2] at h1
        rw [← h1, List.flatMap_map]
      refine range_plain (w := W1) rfl (by omega) (gf := 56) (lb := #[.pointer (some ⟨W.heap.size, 0, none⟩)]) rfl trivial (enters_of Try.func56 (by kernel_rfl) rfl)
        (encs := encG hs) (us := Go.Proofs.Ytalhiedbhcklgaa.U.dn m) (E := fun k => w.heap.size ≤ k ∧ k < W.heap.size ∧ (Value.slice da m dc).ownBlock ≠ some k) (fun k e => by omega) (fun _ => rfl)
        (fun o => backG_iter _ da m dc hs W.heap.size _ ?i1 _ (fun b off e => ?i2) ?i3 (fun e => by omega))
        (fun pre W3 => ∃ ra' rc', Hid (LM F w bt t w.heap.size (w.heap.size + 1) f g da m dc ds a a (ws ++ pre.flatMap (fun i => t.chs (dn.getD i 0))) ra' rc' hs dn W3) ∧ ∀ k, (Value.slice ra' (ws ++ pre.flatMap (fun i => t.chs (dn.getD i 0))).length rc').ownBlock = some k → k < W.heap.size ∨ W1.heap.size + 2 ≤ k)
        (fun _ _ _ => False)
        ?hI (fun _ _ _ _ h _ _ => h.elim) ?h0
        (fun pre x a' W3 => ∃ (gp : Option Addr) (gn gc : Nat), hs[x]? = some (gp, gn, gc) ∧ (∃ ra' rc', Hid (LM F w bt t w.heap.size (w.heap.size + 1) f g da m dc ds a a (ws ++ pre.flatMap (fun i => t.chs (dn.getD i 0))) ra' rc' hs dn W3) ∧ ∀ k, (Value.slice ra' (ws ++ pre.flatMap (fun i => t.chs (dn.getD i 0))).length rc').ownBlock = some k → k < W.heap.size ∨ W1.heap.size + 2 ≤ k) ∧
          a' = { tmps := #[.pointer (some ⟨bt, 0, none⟩), .int .i64 (tt : Nat), .pointer (some ⟨w.heap.size, 0, none⟩), undef, .slice none 0 0, .func (.func 52) #[] #[.pointer (some ⟨w.heap.size, 0, none⟩)], .pointer (some ⟨w.heap.size + 1, 0, none⟩), .slice da m dc, .pointer (some ⟨f, 0, none⟩), .pointer (some ⟨g, 0, none⟩), undef, u11, undef, .slice gp gn gc, undef, undef, .func (.func 52) #[] #[.pointer (some ⟨w.heap.size, 0, none⟩)], .pointer (some ⟨bt, 0, none⟩), .pointer (some ⟨bt, 0, none⟩), .pointer (some ⟨bt, 1, none⟩), .int .i64 (t.here : Nat), .int .i64 (tt : Nat), .int .i64 (a : Nat), .int .i64 (a : Nat), .bool false, u25, u26, u27, u28, u29, u30, u31, u32, u33, u34, u35, u36, u37, u38, u39, u40, u41, u42, u43, u44, .slice da m dc, .func (.func 56) #[] #[.pointer (some ⟨W.heap.size, 0, none⟩)], .int .i64 (x : Nat), .slice gp gn gc, undef, undef, undef, undef, undef, undef, undef, undef, undef, undef, undef, undef, undef, undef, undef, undef, undef], defers := [] })
        ?hAx ?assign ?body ?done ?stop
      case i1 => exact hR.below (((Below.refl _ _).alloc (Nat.le_refl _) _).alloc (by simp) _)
      case i2 =>
        rintro ⟨-, -, h⟩
        exact h (by rw [e]; rfl)
      case i3 => exact (((Below.refl W1.heap.size W1).alloc (Nat.le_refl _) _).alloc (by simp) _).cell (p := ⟨W.heap.size, 0, none⟩) (by simp only; omega) |>.trans (cell_row hBl 0)
      case hI =>
        rintro s W3 W4 ⟨ra', rc', hl3, ho⟩ hb hk
        exact ⟨ra', rc', hl3.out.keepC (hl3.out.bel.trans (hb.below hl3.out.bel.size (fun k hk e => by omega))) hk hb.size (fun D hD => hb.block D (heap_lt (hl3.out.marks D hD).2) (fun e => by have := hdlt D hD; omega)), ho⟩
      case h0 =>
        refine ⟨ra, rc, by rw [List.flatMap_nil, List.append_nil]; exact HLM1, fun k e => .inl ?_⟩
        obtain ⟨us', th, q1, _⟩ := hLM.out.row
        rw [List.flatMap_nil, List.append_nil] at e
        exact (q1.lt k e).2
      case hAx =>
        rintro pre x a' W3 W4 ⟨gp, gn, gc, h1, ⟨ra', rc', hl3, ho⟩, rfl⟩ hb hk
        exact ⟨gp, gn, gc, h1, ⟨ra', rc', hl3.out.keepC (hl3.out.bel.trans (hb.below hl3.out.bel.size (fun k hk e => by omega))) hk hb.size (fun D hD => hb.block D (heap_lt (hl3.out.marks D hD).2) (fun e => by have := hdlt D hD; omega)), ho⟩, rfl⟩
      case assign =>
        rintro l pre x W3 K hlt ⟨ra', rc', hl3, ho⟩ hpre hK
        obtain ⟨hxL, hp1, hp2⟩ := dn_split hpre
        obtain ⟨⟨gp, gn, gc⟩, hu⟩ : ∃ u, hs[x]? = some u := ⟨_, List.getElem?_eq_getElem (by omega)⟩
        rw [encG_eq hu]
        have HU := Lib.hid hu
        have HO := Lib.hid ho
        clear ho hu hpre hp2
        gi_wp2
        exact hK _ _ (But.refl _ _ W3) ⟨gp, gn, gc, HU.out, ⟨ra', rc', hl3, HO.out⟩, rfl⟩
      case body =>
        rintro l pre x a' W3 hlt ⟨gp, gn, gc, h1, ⟨ra', rc', hl3, ho⟩, rfl⟩ hpre
        obtain ⟨hxL, hp1, hp2⟩ := dn_split hpre
        obtain ⟨d, hd⟩ : ∃ d, dn[x]? = some d := ⟨_, List.getElem?_eq_getElem (by omega)⟩
        obtain ⟨hgn, hrd, hd0, hdN⟩ := hLM.out.heads.2 x _ d h1 hd
        simp only at hgn hrd
        subst hgn
        have hok := Tr.chs_ok H.out.lim hd0 hdN
        have hnx : (ws ++ pre.flatMap (fun i => t.chs (dn.getD i 0))) ++ t.chs d = ws ++ (pre ++ [x]).flatMap (fun i => t.chs (dn.getD i 0)) := by
          rw [List.append_assoc, List.flatMap_append, List.flatMap_cons, List.flatMap_nil, List.append_nil, List.getD_eq_getElem?_getD, hd, Option.getD_some]
        have hwb : (ws ++ (pre ++ [x]).flatMap (fun i => t.chs (dn.getD i 0))).length ≤ 1099511627776 := by
          obtain ⟨tl, htl⟩ := hpre
          rw [← hdnmap, ← htl, List.flatMap_append (xs := pre ++ [x])] at hwl
          simp only [List.length_append] at hwl ⊢
          omega
        obtain ⟨ws0, hws0⟩ : ∃ ws0, ws ++ pre.flatMap (fun i => t.chs (dn.getD i 0)) = ws0 := ⟨_, rfl⟩
        rw [hws0] at hl3 ho hnx
        obtain ⟨G, hG⟩ : ∃ G, (t.chs d).length = G := ⟨_, rfl⟩
        have hGm : G ≤ 1048576 := by rw [← hG]; exact hok.1
        have HNX := Lib.hid hnx
        have HOK := Lib.hid hok
        have HRD := Lib.hid hrd
        have HO := Lib.hid ho
        rw [hG] at HRD ⊢
        rw [← hnx] at hwb
        have hwG : ws0.length + G ≤ 1099511627776 := by rw [List.length_append, hG] at hwb; exact hwb
        have hbw1 := HLM1.out.bel.size
        have hb6W := heap_lt hLM.out.c6
        have hdn6 : (Value.slice da m dc).ownBlock ≠ some (w.heap.size + 1) := hLM.out.apart
        have HG := Lib.hid hG
        clear hwb hnx hws0 hrd hok ho hpre hp1 hp2 hxL hd hdN hd0 h1 hwl hdnmap
        have hmix : Try.prog.follows .mixedOrders = true := by kernel_rfl
        gi_wp2
        gi_loopw [51] (fun v51 wr => ∃ (j : Nat) (ra' : Option Addr) (rc' : Nat), v51 = .int .i64 (j : Nat) ∧ j ≤ G ∧ Hid (LM F w bt t w.heap.size (w.heap.size + 1) f g da m dc ds a a (ws0 ++ (t.chs d).take j) ra' rc' hs dn wr) ∧ Hid (∀ k, (Value.slice ra' (ws0 ++ (t.chs d).take j).length rc').ownBlock = some k → k < W.heap.size ∨ W1.heap.size + 2 ≤ k) ∧ Hid (But (W1.heap.size + 2) (fun k => w.heap.size ≤ k ∧ k < W.heap.size ∧ (Value.slice da m dc).ownBlock ≠ some k) W3 wr)) (fun v51 _ => ((G : Int) - intOf v51).toNat)
        case atStart => exact ⟨0, ra', rc', rfl, Nat.zero_le _, by rw [List.take_zero, List.append_nil]; exact hl3, by rw [List.take_zero, List.append_nil]; exact HO.out, But.refl _ _ _⟩
        case round =>
          obtain ⟨j, ra', rc', rfl, hjG, hl, ho2, hbt⟩ := hrel
          by_cases hlt2 : (j : Int) < (G : Int)
          · obtain ⟨c, hc⟩ : ∃ c, (t.chs d)[j]? = some c := ⟨_, List.getElem?_eq_getElem (by have := HG.out; omega)⟩
            obtain ⟨b', off, oa, oc, nn, nc', rfl, hb', q0, q1, q2, r1, r2⟩ := HRD.out.get hl.out.bel hc
            have hwrs := hl.out.bel.size
            have hbwr : b' < wr.heap.size := by omega
            obtain ⟨WD, hWD⟩ : ∃ WD, (wr.alloc (.cells #[.int .i64 c.pos, .slice oa c.old.length oc, .slice nn c.now.length nc'] 24)).drew = WD := ⟨_, rfl⟩
            have hbd : Below wr.heap.size wr WD := by rw [← hWD]; exact ((Below.refl _ _).alloc (Nat.le_refl _) _).drew
            have hsd : WD.heap.size = wr.heap.size + 1 := by rw [← hWD]; simp [World.drew]
            have hBx : WD.heap[wr.heap.size]? = some (.cells #[.int .i64 c.pos, .slice oa c.old.length oc, .slice nn c.now.length nc'] 24 (0, 0)) := by rw [← hWD]; exact heap_alloc_new wr _
            have HL3 := Lib.hid (hl.out.below hbd)
            have hokc : OkC c := HOK.out.2 c (List.mem_of_getElem? hc)
            have HT := Lib.hid (copied_any F oa nn oc nc' c WD (r1.below hbd) (r2.below hbd) hokc)
            have htk : (t.chs d).take j ++ [c] = (t.chs d).take (j + 1) := by rw [List.take_add_one, hc]; rfl
            have hw2 : (ws0 ++ (t.chs d).take j).length ≤ 1099511627776 := by simp only [List.length_append, List.length_take]; omega
            have hnx2 : (ws0 ++ (t.chs d).take j) ++ [c] = ws0 ++ (t.chs d).take (j + 1) := by rw [List.append_assoc, htk]
            have HNX2 := Lib.hid hnx2
            have HO2 := ho2
            obtain ⟨ws3, hws3⟩ : ∃ ws3, ws0 ++ (t.chs d).take j = ws3 := ⟨_, rfl⟩
            rw [hws3] at HL3 HNX2 HO2 hw2
            have c0 : WD.cell? ⟨wr.heap.size, 0, none⟩ = some (.int .i64 c.pos) := cell_row hBx 0
            have c1' : WD.cell? ⟨wr.heap.size, 1, none⟩ = some (.slice oa c.old.length oc) := cell_row hBx 1
            have c2 : WD.cell? ⟨wr.heap.size, 2, none⟩ = some (.slice nn c.now.length nc') := cell_row hBx 2
            have c6 : WD.cell? ⟨w.heap.size + 1, 0, none⟩ = some (.slice ra' ws3.length rc') := cell_row HL3.out.c6 0
            have lB := heap_lt hBx
            have l6 := heap_lt HL3.out.c6
            have hj1 : (j : Int) + 1 ≤ 9223372036854775807 := by omega
            have HFIN : Hid (∀ ra2 rc2 w2, Fr (fun k => some k = (Value.slice ra' ws3.length rc').ownBlock) WD w2 → ((Value.slice ra2 (ws3.length + 1) rc2).ownBlock = (Value.slice ra' ws3.length rc').ownBlock ∨ ∀ k, (Value.slice ra2 (ws3.length + 1) rc2).ownBlock = some k → WD.heap.size ≤ k) →
                LM F w bt t w.heap.size (w.heap.size + 1) f g da m dc ds a a (ws3 ++ [c]) ra2 rc2 hs dn (w2.setCell ⟨w.heap.size + 1, 0, none⟩ (.slice ra2 (ws3.length + 1) rc2)) →
                ∃ (j' : Nat) (ra' : Option Addr) (rc' : Nat), (Value.int .i64 ((j : Int) + 1)) = .int .i64 (j' : Nat) ∧ j' ≤ G ∧ Hid (LM F w bt t w.heap.size (w.heap.size + 1) f g da m dc ds a a (ws0 ++ (t.chs d).take j') ra' rc' hs dn (w2.setCell ⟨w.heap.size + 1, 0, none⟩ (.slice ra2 (ws3.length + 1) rc2))) ∧ Hid (∀ k, (Value.slice ra' (ws0 ++ (t.chs d).take j').length rc').ownBlock = some k → k < W.heap.size ∨ W1.heap.size + 2 ≤ k) ∧ Hid (But (W1.heap.size + 2) (fun k => w.heap.size ≤ k ∧ k < W.heap.size ∧ (Value.slice da m dc).ownBlock ≠ some k) W3 (w2.setCell ⟨w.heap.size + 1, 0, none⟩ (.slice ra2 (ws3.length + 1) rc2)))) := by
              intro ra2 rc2 w2 q1 q2 q3
              have hb4 : But (W1.heap.size + 2) (fun k => w.heap.size ≤ k ∧ k < W.heap.size ∧ (Value.slice da m dc).ownBlock ≠ some k) wr WD := by
                have := hbt.out.size
                rw [← hWD]
                exact ((But.refl _ _ wr).alloc (by omega) _).drew
              have hb5 : But (W1.heap.size + 2) (fun k => w.heap.size ≤ k ∧ k < W.heap.size ∧ (Value.slice da m dc).ownBlock ≠ some k) WD w2 := by
                refine ⟨q1.os, q1.tape, q1.output, q1.size, fun k hk he => ?_⟩
                have := hbt.out.size
                refine q1.block k (by omega) (fun e => he ?_)
                obtain ⟨us', th, r1, _⟩ := HL3.out.row
                have r2 := (r1.lt k e.symm).1
                rcases HO2.out k e.symm with h | h
                · exact ⟨r2, h, fun e2 => rows_apart HL3.out.down r1 (by decide) e2 e⟩
                · omega
              refine ⟨j + 1, ra2, rc2, rfl, by omega, by rw [← HNX2.out]; exact q3, fun k e => ?_, (hbt.out.trans (hb4.trans hb5)).setCell (p := ⟨w.heap.size + 1, 0, none⟩) (.inr ⟨by simp only; omega, by simp only; omega, hdn6⟩) _⟩
              rw [← HNX2.out, List.length_append] at e
              rcases q2 with h | h
              · exact HO2.out k (h.symm.trans e)
              · have := h k e
                have := hbt.out.size
                omega
            clear hws3 ho2 hnx2 htk hokc hl hc r1 r2
            gi_wp2
            refine wpIn_region_any hmix ?_
            change wpAnyIn _ _ _ _ _ _ _ _ _ (World.drew _)
            rw [hWD]
            refine wpAnyIn_ready (rs := [0, 1]) (by kernel_rfl) (by simp) ?_
            refine (AllReadyIn.cons rfl (fun K hK => ?_) (AllReadyIn.cons rfl (fun K hK => ?_) AllReadyIn.nil))
            focus
              go_simp
              refine hK _ _ ?_
              clear hK K
              refine wpAnyIn_ready (rs := [1]) (by kernel_rfl) (by simp) ?_
              refine (AllReadyIn.cons rfl (fun K hK => ?_) AllReadyIn.nil)
              go_simp
              refine hK _ _ ?_
              clear hK K
              refine wpAnyIn_ready (rs := [2]) (by kernel_rfl) (by simp) ?_
              refine (AllReadyIn.cons rfl (fun K hK => ?_) AllReadyIn.nil)
              go_simp
              refine ⟨trivial, CallsIn.inRound l ((callsIn_wide.2 HT.out).mono ?_)⟩
              rintro e w1 hcop
              obtain ⟨oa2, oc2, na2, nc2, rfl, hb1, ra2, rc2, w2, hrun, k6, hoth, hfr, hnear, hLM4⟩ := HL3.out.app hw2 hcop
              have c61 := (hb1.cell (p := ⟨w.heap.size + 1, 0, none⟩) l6).trans c6
              have l61 := Nat.lt_of_lt_of_le l6 hb1.size
              have c62 : w2.cell? ⟨w.heap.size + 1, 0, none⟩ = some (.slice ra' ws3.length rc') := cell_row k6 0
              have z62 : w2.frozen? ⟨w.heap.size + 1, 0, none⟩ = false := frozen_row k6 0
              have l62 := heap_lt k6
              have HRUN := Lib.hid hrun
              have HOTH := Lib.hid hoth
              have HFR := Lib.hid hfr
              have HNEAR := Lib.hid hnear
              have HLM4 := Lib.hid hLM4
              clear hrun hoth hfr hnear hLM4 k6 hcop
              refine hK _ _ ?_
              clear hK K
              refine wpAnyIn_ready (rs := [3]) (by kernel_rfl) (by simp) ?_
              refine (AllReadyIn.cons rfl (fun K hK => ?_) AllReadyIn.nil)
              go_simp
              refine hK _ _ ?_
              clear hK K
              refine wpAnyIn_ready (rs := [4]) (by kernel_rfl) (by simp) ?_
              refine (AllReadyIn.cons rfl (fun K hK => ?_) AllReadyIn.nil)
              refine stepIn_append_run rfl (.tmp 55) (.tmp 58) _ _ rfl _ _ (by simp [Act.eval]) (by simp [Act.eval]) (HRUN.out _) ?_
              refine hK _ _ ?_
              clear hK K
              refine wpAnyIn_ready (rs := [5]) (by kernel_rfl) (by simp) ?_
              refine (AllReadyIn.cons rfl (fun K hK => ?_) AllReadyIn.nil)
              go_simp
              refine hK _ _ ?_
              clear hK K
              refine wpAnyIn_done (by kernel_rfl) ?_ _
              gi_wp2
              go_roundw
              case rel => exact HFIN.out _ _ _ HFR.out HNEAR.out HLM4.out
              case measure => first | (simp [intOf]; done) | (simp [intOf]; omega)
            focus
              go_simp
              refine hK _ _ ?_
              clear hK K
              refine wpAnyIn_ready (rs := [0, 2]) (by kernel_rfl) (by simp) ?_
              refine (AllReadyIn.cons rfl (fun K hK => ?_) (AllReadyIn.cons rfl (fun K hK => ?_) AllReadyIn.nil))
              focus
                go_simp
                refine hK _ _ ?_
                clear hK K
                refine wpAnyIn_ready (rs := [2]) (by kernel_rfl) (by simp) ?_
                refine (AllReadyIn.cons rfl (fun K hK => ?_) AllReadyIn.nil)
                go_simp
                refine ⟨trivial, CallsIn.inRound l ((callsIn_wide.2 HT.out).mono ?_)⟩
                rintro e w1 hcop
                obtain ⟨oa2, oc2, na2, nc2, rfl, hb1, ra2, rc2, w2, hrun, k6, hoth, hfr, hnear, hLM4⟩ := HL3.out.app hw2 hcop
                have c61 := (hb1.cell (p := ⟨w.heap.size + 1, 0, none⟩) l6).trans c6
                have l61 := Nat.lt_of_lt_of_le l6 hb1.size
                have c62 : w2.cell? ⟨w.heap.size + 1, 0, none⟩ = some (.slice ra' ws3.length rc') := cell_row k6 0
                have z62 : w2.frozen? ⟨w.heap.size + 1, 0, none⟩ = false := frozen_row k6 0
                have l62 := heap_lt k6
                have HRUN := Lib.hid hrun
                have HOTH := Lib.hid hoth
                have HFR := Lib.hid hfr
                have HNEAR := Lib.hid hnear
                have HLM4 := Lib.hid hLM4
                clear hrun hoth hfr hnear hLM4 k6 hcop
                refine hK _ _ ?_
                clear hK K
                refine wpAnyIn_ready (rs := [3]) (by kernel_rfl) (by simp) ?_
                refine (AllReadyIn.cons rfl (fun K hK => ?_) AllReadyIn.nil)
                go_simp
                refine hK _ _ ?_
                clear hK K
                refine wpAnyIn_ready (rs := [4]) (by kernel_rfl) (by simp) ?_
                refine (AllReadyIn.cons rfl (fun K hK => ?_) AllReadyIn.nil)
                refine stepIn_append_run rfl (.tmp 55) (.tmp 58) _ _ rfl _ _ (by simp [Act.eval]) (by simp [Act.eval]) (HRUN.out _) ?_
                refine hK _ _ ?_
                clear hK K
                refine wpAnyIn_ready (rs := [5]) (by kernel_rfl) (by simp) ?_
                refine (AllReadyIn.cons rfl (fun K hK => ?_) AllReadyIn.nil)
                go_simp
                refine hK _ _ ?_
                clear hK K
                refine wpAnyIn_done (by kernel_rfl) ?_ _
                gi_wp2
                go_roundw
                case rel => exact HFIN.out _ _ _ HFR.out HNEAR.out HLM4.out
                case measure => first | (simp [intOf]; done) | (simp [intOf]; omega)
              focus
                go_simp
                refine ⟨trivial, CallsIn.inRound l ((callsIn_wide.2 HT.out).mono ?_)⟩
                rintro e w1 hcop
                obtain ⟨oa2, oc2, na2, nc2, rfl, hb1, ra2, rc2, w2, hrun, k6, hoth, hfr, hnear, hLM4⟩ := HL3.out.app hw2 hcop
                have c61 := (hb1.cell (p := ⟨w.heap.size + 1, 0, none⟩) l6).trans c6
                have l61 := Nat.lt_of_lt_of_le l6 hb1.size
                have c62 : w2.cell? ⟨w.heap.size + 1, 0, none⟩ = some (.slice ra' ws3.length rc') := cell_row k6 0
                have z62 : w2.frozen? ⟨w.heap.size + 1, 0, none⟩ = false := frozen_row k6 0
                have l62 := heap_lt k6
                have HRUN := Lib.hid hrun
                have HOTH := Lib.hid hoth
                have HFR := Lib.hid hfr
                have HNEAR := Lib.hid hnear
                have HLM4 := Lib.hid hLM4
                clear hrun hoth hfr hnear hLM4 k6 hcop
                refine hK _ _ ?_
                clear hK K
                refine wpAnyIn_ready (rs := [0, 3]) (by kernel_rfl) (by simp) ?_
                refine (AllReadyIn.cons rfl (fun K hK => ?_) (AllReadyIn.cons rfl (fun K hK => ?_) AllReadyIn.nil))
                focus
                  go_simp
                  refine hK _ _ ?_
                  clear hK K
                  refine wpAnyIn_ready (rs := [3]) (by kernel_rfl) (by simp) ?_
                  refine (AllReadyIn.cons rfl (fun K hK => ?_) AllReadyIn.nil)
                  go_simp
                  refine hK _ _ ?_
                  clear hK K
                  refine wpAnyIn_ready (rs := [4]) (by kernel_rfl) (by simp) ?_
                  refine (AllReadyIn.cons rfl (fun K hK => ?_) AllReadyIn.nil)
                  refine stepIn_append_run rfl (.tmp 55) (.tmp 58) _ _ rfl _ _ (by simp [Act.eval]) (by simp [Act.eval]) (HRUN.out _) ?_
                  refine hK _ _ ?_
                  clear hK K
                  refine wpAnyIn_ready (rs := [5]) (by kernel_rfl) (by simp) ?_
                  refine (AllReadyIn.cons rfl (fun K hK => ?_) AllReadyIn.nil)
                  go_simp
                  refine hK _ _ ?_
                  clear hK K
                  refine wpAnyIn_done (by kernel_rfl) ?_ _
                  gi_wp2
                  go_roundw
                  case rel => exact HFIN.out _ _ _ HFR.out HNEAR.out HLM4.out
                  case measure => first | (simp [intOf]; done) | (simp [intOf]; omega)
                focus
                  go_simp
                  refine hK _ _ ?_
                  clear hK K
                  refine wpAnyIn_ready (rs := [0]) (by kernel_rfl) (by simp) ?_
                  refine (AllReadyIn.cons rfl (fun K hK => ?_) AllReadyIn.nil)
                  go_simp
                  refine hK _ _ ?_
                  clear hK K
                  refine wpAnyIn_ready (rs := [4]) (by kernel_rfl) (by simp) ?_
                  refine (AllReadyIn.cons rfl (fun K hK => ?_) AllReadyIn.nil)
                  refine stepIn_append_run rfl (.tmp 55) (.tmp 58) _ _ rfl _ _ (by simp [Act.eval]) (by simp [Act.eval]) (HRUN.out _) ?_
                  refine hK _ _ ?_
                  clear hK K
                  refine wpAnyIn_ready (rs := [5]) (by kernel_rfl) (by simp) ?_
                  refine (AllReadyIn.cons rfl (fun K hK => ?_) AllReadyIn.nil)
                  go_simp
                  refine hK _ _ ?_
                  clear hK K
                  refine wpAnyIn_done (by kernel_rfl) ?_ _
                  gi_wp2
                  go_roundw
                  case rel => exact HFIN.out _ _ _ HFR.out HNEAR.out HLM4.out
                  case measure => first | (simp [intOf]; done) | (simp [intOf]; omega)
          · obtain rfl : j = G := by omega
            have HFIN : Hid (LM F w bt t w.heap.size (w.heap.size + 1) f g da m dc ds a a (ws ++ (pre ++ [x]).flatMap (fun i => t.chs (dn.getD i 0))) ra' rc' hs dn wr) := by
              rw [← HNX.out]
              have := hl
              rw [← HG.out, List.take_length] at this
              exact this
            have HFO : Hid (∀ k, (Value.slice ra' (ws ++ (pre ++ [x]).flatMap (fun i => t.chs (dn.getD i 0))).length rc').ownBlock = some k → k < W.heap.size ∨ W1.heap.size + 2 ≤ k) := by
              rw [← HNX.out]
              have := ho2
              rw [← HG.out, List.take_length] at this
              exact this
            clear hl ho2
            clear hs1
            gi_wp2
            exact ⟨hbt.out, ra', rc', HFIN, fun k e => HFO.out k (by revert e; cases ra' <;> exact id)⟩
      case done =>
        rintro W3 ⟨ra', rc', hl3, ho⟩ hD
        rw [hdnmap] at hl3
        have HLM4 : Hid (LM F w bt t w.heap.size (w.heap.size + 1) f g da m dc (W1.heap.size :: ds) a a (ws ++ dn.reverse.flatMap t.chs) ra' rc' hs dn W3) := { hl3.out with
          nodup := List.nodup_cons.2 ⟨fun e => by have := hdlt _ e; omega, hl3.out.nodup⟩
          marks := fun D hD' => by
            rcases List.mem_cons.1 hD' with rfl | hD'
            · exact ⟨by have := HLM1.out.bel.size; omega, hD⟩
            · exact hl3.out.marks D hD' }
        have hway : ws ++ dn.reverse.flatMap t.chs = t.way t.here tt := by rw [hWN.out.eq, Tr.way_self H.out.ok, List.nil_append]
        rw [hway] at HLM4
        clear hl3 ho hD hdnmap hwl hway
        obtain ⟨lw, hlw⟩ : ∃ lw, (t.way t.here tt).length = lw := ⟨_, rfl⟩
        have c2 : W3.cell? ⟨w.heap.size, 0, none⟩ = some (.pointer (some ⟨bt, 0, none⟩)) := cell_row HLM4.out.c2 0
        have c6 : W3.cell? ⟨w.heap.size + 1, 0, none⟩ = some (.slice ra' lw rc') := by rw [← hlw]; exact cell_row HLM4.out.c6 0
        have l2 := heap_lt HLM4.out.c2
        have l6 := heap_lt HLM4.out.c6
        have hs3 := HLM4.out.bel.size
        have lb3 : bt < W3.heap.size := by omega
        have z1' : W3.frozen? ⟨bt, 1, none⟩ = false := (HLM4.out.bel.frozen (p := ⟨bt, 1, none⟩) hl).trans z1
        have hne6 : ¬ w.heap.size + 1 = bt := by omega
        have c1'' : W3.cell? ⟨bt, 1, none⟩ = some (.int .i64 (t.here : Nat)) := (HLM4.out.bel.cell (p := ⟨bt, 1, none⟩) hl).trans c1
        have hcb : ∃ cur, W3.heap[bt]? = some (.cells cur 73 (0, 0)) := by
          obtain ⟨_, _, _, _, _, e1, _⟩ := H.out.ex
          exact ⟨_, (HLM4.out.bel.block bt hl).trans e1⟩
        have HFIN : Hid (∀ w5, KeepC (W3.setCell ⟨bt, 1, none⟩ (.int .i64 (tt : Nat))) w5 → Fr (fun k => k ∈ W1.heap.size :: ds) (W3.setCell ⟨bt, 1, none⟩ (.int .i64 (tt : Nat))) w5 → FreshCs w.heap.size w5 ra' (t.way t.here tt).length rc' (t.way t.here tt) ∧ TreeC P F w5 bt { t with here := tt } ∧ Fr (fun k => k = bt) w w5) := by
          intro w5 hk hf
          obtain ⟨cur, hcur⟩ := hcb
          have hf1 : Fr (fun k => k = bt) W3 (W3.setCell ⟨bt, 1, none⟩ (.int .i64 (tt : Nat))) := (Fr.refl (fun k => k = bt) W3).setCell ⟨bt, 1, none⟩ _ (fun _ => rfl)
          have hge : ∀ k, k ∈ W1.heap.size :: ds → w.heap.size ≤ k := fun k hk => (HLM4.out.marks k hk).1
          refine ⟨(HLM4.out.row.other hf1 hcur (by decide) (by decide) (by decide)).keepC hk hf.size, ((H.out.below HLM4.out.bel).setHere tt hto).fr hf (fun k hP hm => ?_), ((Fr.of_below (fun k => k = bt) HLM4.out.bel).trans hf1 (fun _ _ h => h)).trans hf (fun k hk hm => ?_)⟩
          · have := H.out.lt k hP
            have := hge k hm
            omega
          · have := hge k hm
            omega
        have HM : Hid (∀ D ∈ W1.heap.size :: ds, (W3.setCell ⟨bt, 1, none⟩ (.int .i64 (tt : Nat))).heap[D]? = some (.deferred (some []))) := fun D hD => by
          have h1 := HLM4.out.marks D hD
          exact (Below.heap_setCell _ _ _ _ (by simp only; omega)).trans h1.2
        clear hcb
        gi_wp2
        refine leaves_marks (W1.heap.size :: ds) _ HM.out HLM4.out.nodup (fun w5 hk hf => ?_)
        obtain ⟨q1, q2, q3⟩ := HFIN.out w5 hk hf
        exact ⟨_, results_tmp rfl _ _ _, ra', rc', by rw [hlw]; rfl, q1, q2, q3⟩
      case stop =>
        rintro j pre W3 _ h _
        exact h.elim
    · have t1 : ((a : Int) != (b : Int)) = true := by simp; omega
      have t2 : ¬ (a : Int) < (b : Int) := by omega
      have ha0 : a ≠ 0 := by omega
      obtain ⟨gn, nnc, na, nc, q0, q1, q2, q3, q4, q5⟩ := H.out.node (Below.refl _ w) ha0 hWN.out.la
      have hbel := hLM.out.bel
      have hws := hbel.size
      have hlow := hLM.out.low
      have HUP := Lib.hid (up_any hN hWN.out.la ((hbel.cell (p := ⟨bt, 0, none⟩) hl).trans q0) (by omega) ((hbel.cell (p := ⟨gn, a * 3, none⟩) q1).trans q2) ((hbel.cell (p := ⟨gn, a * 3 + 1, none⟩) q1).trans q3) ((hbel.cell (p := ⟨gn, a * 3 + 2, none⟩) q1).trans q4) (by omega) hLM.out.cf (by omega) (cell_row hLM.out.c2 0) (fun e => by have := hLM.out.c2; rw [e, hLM.out.cf] at this; simp at this))
      have H5 := Lib.hid q5
      clear q0 q1 q2 q3 q4 q5 hbel
      gi_wp2
      refine ⟨trivial, (callsIn_wide.2 HUP.out).mono ?_⟩
      rintro e W1 ⟨rfl, hU⟩
      have HLM1 := Lib.hid (hLM.out.upF hU.out.1 hU.out.2)
      have hs1 := hU.out.1.size
      clear HUP
      obtain ⟨L, hL⟩ : ∃ L, (t.chs a).length = L := ⟨_, rfl⟩
      rw [hL]
      gi_wp2
      refine ⟨trivial, (callsIn_wide.2 (backwardC_any _ _ _ _)).mono ?_⟩
      rintro e W2 ⟨rfl, hW2⟩
      have hb12 : Below W1.heap.size W1 W2 := by rw [hW2]; exact (Below.refl _ _).alloc (Nat.le_refl _) _
      have hs2 : W2.heap.size = W1.heap.size + 1 := by rw [hW2]; simp
      have hBl : W2.heap[W1.heap.size]? = some (.cells #[.slice na L nc] 41 (0, 0)) := by rw [hW2]; exact heap_alloc_new W1 _
      have HLM2 := Lib.hid (HLM1.out.below hb12)
      clear hW2
      gi_wp2
      rw [hL] at H5
      obtain ⟨us, hR1, hR2, hR3, hR4⟩ := H5.out
      have hcs := Tr.chs_ok H.out.lim ha0 hWN.out.la
      have hne := Tr.chs_ne H.out.ok ha0 hWN.out.la
      have hL0 : 0 < L := by rw [← hL]; exact List.length_pos_iff.2 hne
      have hus : us.length = L := by rw [hR3, hL]
      have hdlt : ∀ D ∈ ds, D < W2.heap.size := fun D hD => heap_lt (HLM2.out.marks D hD).2
      have hnab : ∃ nb no, na = some ⟨nb, no, none⟩ ∧ nb < w.heap.size := by
        obtain ⟨nb, no, e1, e2, _⟩ := hR1.at_ hL0
        exact ⟨nb, no, e1, e2⟩
      have hwl : (ws ++ backC (t.chs a)).length ≤ 1099511627776 := by
        have h1 := Tr.way_len H.out.ok H.out.lim _ _ _ (Nat.le_refl _) H.out.ok.2.1 hto
        have h2 := H.out.ok.2.1
        have e1 := hWN.out.eq
        rw [Tr.way_up H.out.ok hWN.out.la hab] at e1
        rw [e1] at h1
        simp only [List.length_append] at h1 ⊢
        omega
      have HR4 := Lib.hid hR4
      clear hR4
      refine range_plain (w := W2) rfl (by omega) (gf := 55) (lb := #[.pointer (some ⟨W1.heap.size, 0, none⟩)]) rfl trivial (enters_of Try.func55 (by kernel_rfl) rfl)
        (encs := encC us) (us := Go.Proofs.Ytalhiedbhcklgaa.U.dn L) (E := fun k => w.heap.size ≤ k ∧ k < W1.heap.size) (fun k e => by omega) (fun _ => rfl)
        (fun o => backC_iter _ na L nc us W1.heap.size _ ?i1 _ (fun b off e => ?i2) ?i3 (fun e => by omega))
        (fun pre W3 => ∃ ra' rc', Hid (LM F w bt t w.heap.size (w.heap.size + 1) f g da m dc ds (t.up a) b (ws ++ pre.map (fun i => turnC (chAt (t.chs a) i))) ra' rc' hs dn W3) ∧ ∀ k, (Value.slice ra' (ws ++ pre.map (fun i => turnC (chAt (t.chs a) i))).length rc').ownBlock = some k → k < W1.heap.size ∨ W2.heap.size + 2 ≤ k)
        (fun _ _ _ => False)
        ?hI (fun _ _ _ _ h _ _ => h.elim) ?h0
        (fun pre x a' W3 => ∃ (Bx : Nat) (oa : Option Addr) (oc : Nat) (nn : Option Addr) (nc' : Nat) (c : Ch), W2.heap.size + 2 ≤ Bx ∧ W3.heap[Bx]? = some (.cells #[.int .i64 c.pos, .slice oa c.old.length oc, .slice nn c.now.length nc'] 24 (0, 0)) ∧ (t.chs a)[x]? = some c ∧ Hid (RdL F w oa c.old.length oc c.old) ∧ Hid (RdL F w nn c.now.length nc' c.now) ∧
          (∃ ra' rc', Hid (LM F w bt t w.heap.size (w.heap.size + 1) f g da m dc ds (t.up a) b (ws ++ pre.map (fun i => turnC (chAt (t.chs a) i))) ra' rc' hs dn W3) ∧ ∀ k, (Value.slice ra' (ws ++ pre.map (fun i => turnC (chAt (t.chs a) i))).length rc').ownBlock = some k → k < W1.heap.size ∨ W2.heap.size + 2 ≤ k) ∧
          a' = { tmps := #[.pointer (some ⟨bt, 0, none⟩), .int .i64 (tt : Nat), .pointer (some ⟨w.heap.size, 0, none⟩), undef, .slice none 0 0, .func (.func 52) #[] #[.pointer (some ⟨w.heap.size, 0, none⟩)], .pointer (some ⟨w.heap.size + 1, 0, none⟩), .slice da m dc, .pointer (some ⟨f, 0, none⟩), .pointer (some ⟨g, 0, none⟩), undef, .pointer (some ⟨Bx, 0, none⟩), undef, undef, undef, undef, .func (.func 52) #[] #[.pointer (some ⟨w.heap.size, 0, none⟩)], .pointer (some ⟨bt, 0, none⟩), .pointer (some ⟨bt, 0, none⟩), .pointer (some ⟨bt, 1, none⟩), .int .i64 (t.here : Nat), .int .i64 (tt : Nat), .int .i64 (a : Nat), .int .i64 (b : Nat), .bool true, .int .i64 (a : Nat), .int .i64 (b : Nat), .bool false, u28, u29, u30, u31, u32, .func (.func 52) #[] #[.pointer (some ⟨w.heap.size, 0, none⟩)], .slice na L nc, .func (.func 55) #[] #[.pointer (some ⟨W1.heap.size, 0, none⟩)], .int .i64 (x : Nat), .agg #[.int .i64 c.pos, .slice oa c.old.length oc, .slice nn c.now.length nc'], u38, u39, u40, u41, u42, u43, u44, undef, undef, undef, undef, undef, undef, undef, undef, undef, undef, undef, undef, undef, undef, undef, undef, undef, undef, undef, undef, undef], defers := [] })
        ?hAx ?assign ?body ?done ?stop
      case i1 => exact hR1.below ((HLM2.out.bel.alloc (by have := HLM2.out.bel.size; omega) _).alloc (by have := HLM2.out.bel.size; simp; omega) _)
      case i2 =>
        obtain ⟨nb, no, e1, e2⟩ := hnab
        rw [e1] at e
        injection e with e
        injection e with e
        omega
      case i3 => exact (((Below.refl W2.heap.size W2).alloc (Nat.le_refl _) _).alloc (by simp) _).cell (p := ⟨W1.heap.size, 0, none⟩) (by simp only; omega) |>.trans (cell_row hBl 0)
      case hI =>
        rintro s W3 W4 ⟨ra', rc', hl3, ho⟩ hb hk
        exact ⟨ra', rc', hl3.out.keepC (hl3.out.bel.trans (hb.below hl3.out.bel.size (fun k hk e => by have := HLM2.out.bel.size; omega))) hk hb.size (fun D hD => hb.block D (heap_lt (hl3.out.marks D hD).2) (fun e => by have := hdlt D hD; omega)), ho⟩
      case h0 =>
        refine ⟨ra, rc, by rw [List.map_nil, List.append_nil]; exact HLM2, fun k e => .inl ?_⟩
        obtain ⟨us', th, q1, _⟩ := hLM.out.row
        rw [List.map_nil, List.append_nil] at e
        have := (q1.lt k e).2
        omega
      case hAx =>
        rintro pre x a' W3 W4 ⟨Bx, oa, oc, nn, nc', c, h1, h2, h3, h4, h5, ⟨ra', rc', hl3, ho⟩, rfl⟩ hb hk
        exact ⟨Bx, oa, oc, nn, nc', c, h1, hk.cells h2, h3, h4, h5, ⟨ra', rc', hl3.out.keepC (hl3.out.bel.trans (hb.below hl3.out.bel.size (fun k hk e => by have := HLM2.out.bel.size; omega))) hk hb.size (fun D hD => hb.block D (heap_lt (hl3.out.marks D hD).2) (fun e => by have := hdlt D hD; omega)), ho⟩, rfl⟩
      case assign =>
        rintro l pre x W3 K hlt ⟨ra', rc', hl3, ho⟩ hpre hK
        obtain ⟨hxL, hp1, hp2⟩ := dn_split hpre
        obtain ⟨u, hu⟩ : ∃ u, us[x]? = some u := ⟨_, List.getElem?_eq_getElem (by omega)⟩
        obtain ⟨c, hc⟩ : ∃ c, (t.chs a)[x]? = some c := ⟨_, List.getElem?_eq_getElem (by omega)⟩
        obtain ⟨oa, oc, nn, nc', rfl, hr1, hr2⟩ := HR4.out x u c hu hc
        rw [encC_eq hu]
        have HR1 := Lib.hid hr1
        have HR2 := Lib.hid hr2
        have HC := Lib.hid hc
        have HO := Lib.hid ho
        clear hr1 hr2 hc ho hu hpre hp2
        gi_wp2
        refine hK _ _ ?_ ⟨W3.heap.size, oa, oc, nn, nc', c, by omega, heap_alloc_new W3 _, HC.out, HR1, HR2, ⟨ra', rc', hl3.out.below ((Below.refl _ _).alloc (Nat.le_refl _) _), HO.out⟩, rfl⟩
        exact (But.refl _ _ W3).alloc (by omega) _
      case body =>
        rintro l pre x a' W3 hlt ⟨Bx, oa, oc, nn, nc', c, h1, h2, h3, h4, h5, ⟨ra', rc', hl3, ho⟩, rfl⟩ hpre
        obtain ⟨hxL, hp1, hp2⟩ := dn_split hpre
        obtain ⟨WD, hWD⟩ : ∃ WD, W3.drew = WD := ⟨_, rfl⟩
        have hbd : Below W3.heap.size W3 WD := by rw [← hWD]; exact (Below.refl _ _).drew
        have hsd : WD.heap.size = W3.heap.size := by rw [← hWD]; rfl
        have hbw : Below w.heap.size w WD := hl3.out.bel.trans (hbd.mono hl3.out.bel.size)
        have hBx : WD.heap[Bx]? = some (.cells #[.int .i64 c.pos, .slice oa c.old.length oc, .slice nn c.now.length nc'] 24 (0, 0)) := by rw [← hWD]; exact h2
        have HL3 := Lib.hid (hl3.out.below hbd)
        have hokc : OkC c := hcs.2 c (List.mem_of_getElem? h3)
        have HT := Lib.hid (turned_any F oa nn oc nc' c WD (h4.out.below hbw) (h5.out.below hbw) hokc)
        have hw2 : (ws ++ pre.map (fun i => turnC (chAt (t.chs a) i))).length ≤ 1099511627776 := by
          have e1 : (backC (t.chs a)).length = L := by simp [backC, hL]
          simp only [List.length_append, List.length_map] at hwl ⊢
          omega
        have hnx : (ws ++ pre.map (fun i => turnC (chAt (t.chs a) i))) ++ [turnC c] = ws ++ (pre ++ [x]).map (fun i => turnC (chAt (t.chs a) i)) := by
          rw [List.append_assoc, List.map_append, List.map_cons, List.map_nil, chAt_eq h3]
        have HNX := Lib.hid hnx
        obtain ⟨ws3, hws3⟩ : ∃ ws3, ws ++ pre.map (fun i => turnC (chAt (t.chs a) i)) = ws3 := ⟨_, rfl⟩
        rw [hws3] at HL3 HNX ho hw2
        have HO := Lib.hid ho
        have c0 : WD.cell? ⟨Bx, 0, none⟩ = some (.int .i64 c.pos) := cell_row hBx 0
        have c1' : WD.cell? ⟨Bx, 1, none⟩ = some (.slice oa c.old.length oc) := cell_row hBx 1
        have c2 : WD.cell? ⟨Bx, 2, none⟩ = some (.slice nn c.now.length nc') := cell_row hBx 2
        have c6 : WD.cell? ⟨w.heap.size + 1, 0, none⟩ = some (.slice ra' ws3.length rc') := cell_row HL3.out.c6 0
        have lB := heap_lt hBx
        have l6 := heap_lt HL3.out.c6
        have HXL := Lib.hid hxL
        clear hws3 ho hnx hpre hxL hp1 hp2 h2 h3 h4 h5 hl3 hokc
        have HFIN : Hid (∀ ra2 rc2 w2, Fr (fun k => some k = (Value.slice ra' ws3.length rc').ownBlock) WD w2 → ((Value.slice ra2 (ws3.length + 1) rc2).ownBlock = (Value.slice ra' ws3.length rc').ownBlock ∨ ∀ k, (Value.slice ra2 (ws3.length + 1) rc2).ownBlock = some k → WD.heap.size ≤ k) →
            LM F w bt t w.heap.size (w.heap.size + 1) f g da m dc ds (t.up a) b (ws3 ++ [turnC c]) ra2 rc2 hs dn (w2.setCell ⟨w.heap.size + 1, 0, none⟩ (.slice ra2 (ws3.length + 1) rc2)) →
            But (W2.heap.size + 2) (fun k => w.heap.size ≤ k ∧ k < W1.heap.size) W3 (w2.setCell ⟨w.heap.size + 1, 0, none⟩ (.slice ra2 (ws3.length + 1) rc2)) ∧ ∃ ra' rc', Hid (LM F w bt t w.heap.size (w.heap.size + 1) f g da m dc ds (t.up a) b (ws ++ (pre ++ [x]).map (fun i => turnC (chAt (t.chs a) i))) ra' rc' hs dn (w2.setCell ⟨w.heap.size + 1, 0, none⟩ (.slice ra2 (ws3.length + 1) rc2))) ∧ ∀ k, (Value.slice ra' (ws ++ (pre ++ [x]).map (fun i => turnC (chAt (t.chs a) i))).length rc').ownBlock = some k → k < W1.heap.size ∨ W2.heap.size + 2 ≤ k) := by
          intro ra2 rc2 w2 q1 q2 q3
          have eb : W3.heap = WD.heap := by rw [← hWD]; rfl
          have hb3 : But (W2.heap.size + 2) (fun k => w.heap.size ≤ k ∧ k < W1.heap.size) W3 w2 := by
            refine ⟨by rw [q1.os, ← hWD]; rfl, by rw [q1.tape, ← hWD]; rfl, by rw [q1.output, ← hWD]; rfl, by rw [eb]; exact q1.size, fun k hk he => ?_⟩
            rw [eb]
            refine q1.block k (by omega) (fun e => he ?_)
            obtain ⟨us', th, r1, _⟩ := HL3.out.row
            have r2 := (r1.lt k e.symm).1
            rcases HO.out k e.symm with h | h
            · exact ⟨r2, h⟩
            · omega
          refine ⟨hb3.setCell (p := ⟨w.heap.size + 1, 0, none⟩) (.inr ⟨by simp only; omega, by have := heap_lt hLM.out.c6; simp only; omega⟩) _, ra2, rc2, by rw [← HNX.out]; exact q3, fun k e => ?_⟩
          rw [← HNX.out, List.length_append] at e
          rcases q2 with h | h
          · exact HO.out k (h.symm.trans e)
          · have := h k e
            omega
        have hmix : Try.prog.follows .mixedOrders = true := by kernel_rfl
        gi_wp2
        refine wpIn_region_any hmix ?_
        change wpAnyIn _ _ _ _ _ _ _ _ _ (World.drew _)
        rw [hWD]
        refine wpAnyIn_ready (rs := [0, 1]) (by kernel_rfl) (by simp) ?_
        refine (AllReadyIn.cons rfl (fun K hK => ?_) (AllReadyIn.cons rfl (fun K hK => ?_) AllReadyIn.nil))
        focus
          go_simp
          refine hK _ _ ?_
          clear hK K
          refine wpAnyIn_ready (rs := [1]) (by kernel_rfl) (by simp) ?_
          refine (AllReadyIn.cons rfl (fun K hK => ?_) AllReadyIn.nil)
          go_simp
          refine hK _ _ ?_
          clear hK K
          refine wpAnyIn_ready (rs := [2]) (by kernel_rfl) (by simp) ?_
          refine (AllReadyIn.cons rfl (fun K hK => ?_) AllReadyIn.nil)
          go_simp
          refine ⟨trivial, CallsIn.inRound l ((callsIn_wide.2 HT.out).mono ?_)⟩
          rintro e w1 hcop
          obtain ⟨oa2, oc2, na2, nc2, rfl, hb1, ra2, rc2, w2, hrun, k6, hoth, hfr, hnear, hLM4⟩ := HL3.out.app hw2 hcop
          have c61 := (hb1.cell (p := ⟨w.heap.size + 1, 0, none⟩) l6).trans c6
          have l61 := Nat.lt_of_lt_of_le l6 hb1.size
          have c62 : w2.cell? ⟨w.heap.size + 1, 0, none⟩ = some (.slice ra' ws3.length rc') := cell_row k6 0
          have z62 : w2.frozen? ⟨w.heap.size + 1, 0, none⟩ = false := frozen_row k6 0
          have l62 := heap_lt k6
          have HRUN := Lib.hid hrun
          have HOTH := Lib.hid hoth
          have HFR := Lib.hid hfr
          have HNEAR := Lib.hid hnear
          have HLM4 := Lib.hid hLM4
          clear hrun hoth hfr hnear hLM4 k6 hcop
          refine hK _ _ ?_
          clear hK K
          refine wpAnyIn_ready (rs := [3]) (by kernel_rfl) (by simp) ?_
          refine (AllReadyIn.cons rfl (fun K hK => ?_) AllReadyIn.nil)
          go_simp
          refine hK _ _ ?_
          clear hK K
          refine wpAnyIn_ready (rs := [4]) (by kernel_rfl) (by simp) ?_
          refine (AllReadyIn.cons rfl (fun K hK => ?_) AllReadyIn.nil)
          refine stepIn_append_run rfl (.tmp 38) (.tmp 41) _ _ rfl _ _ (by simp [Act.eval]) (by simp [Act.eval]) (HRUN.out _) ?_
          refine hK _ _ ?_
          clear hK K
          refine wpAnyIn_ready (rs := [5]) (by kernel_rfl) (by simp) ?_
          refine (AllReadyIn.cons rfl (fun K hK => ?_) AllReadyIn.nil)
          go_simp
          refine hK _ _ ?_
          clear hK K
          refine wpAnyIn_done (by kernel_rfl) ?_ _
          exact HFIN.out _ _ _ HFR.out HNEAR.out HLM4.out
        focus
          go_simp
          refine hK _ _ ?_
          clear hK K
          refine wpAnyIn_ready (rs := [0, 2]) (by kernel_rfl) (by simp) ?_
          refine (AllReadyIn.cons rfl (fun K hK => ?_) (AllReadyIn.cons rfl (fun K hK => ?_) AllReadyIn.nil))
          focus
            go_simp
            refine hK _ _ ?_
            clear hK K
            refine wpAnyIn_ready (rs := [2]) (by kernel_rfl) (by simp) ?_
            refine (AllReadyIn.cons rfl (fun K hK => ?_) AllReadyIn.nil)
            go_simp
            refine ⟨trivial, CallsIn.inRound l ((callsIn_wide.2 HT.out).mono ?_)⟩
            rintro e w1 hcop
            obtain ⟨oa2, oc2, na2, nc2, rfl, hb1, ra2, rc2, w2, hrun, k6, hoth, hfr, hnear, hLM4⟩ := HL3.out.app hw2 hcop
            have c61 := (hb1.cell (p := ⟨w.heap.size + 1, 0, none⟩) l6).trans c6
            have l61 := Nat.lt_of_lt_of_le l6 hb1.size
            have c62 : w2.cell? ⟨w.heap.size + 1, 0, none⟩ = some (.slice ra' ws3.length rc') := cell_row k6 0
            have z62 : w2.frozen? ⟨w.heap.size + 1, 0, none⟩ = false := frozen_row k6 0
            have l62 := heap_lt k6
            have HRUN := Lib.hid hrun
            have HOTH := Lib.hid hoth
            have HFR := Lib.hid hfr
            have HNEAR := Lib.hid hnear
            have HLM4 := Lib.hid hLM4
            clear hrun hoth hfr hnear hLM4 k6 hcop
            refine hK _ _ ?_
            clear hK K
            refine wpAnyIn_ready (rs := [3]) (by kernel_rfl) (by simp) ?_
            refine (AllReadyIn.cons rfl (fun K hK => ?_) AllReadyIn.nil)
            go_simp
            refine hK _ _ ?_
            clear hK K
            refine wpAnyIn_ready (rs := [4]) (by kernel_rfl) (by simp) ?_
            refine (AllReadyIn.cons rfl (fun K hK => ?_) AllReadyIn.nil)
            refine stepIn_append_run rfl (.tmp 38) (.tmp 41) _ _ rfl _ _ (by simp [Act.eval]) (by simp [Act.eval]) (HRUN.out _) ?_
            refine hK _ _ ?_
            clear hK K
            refine wpAnyIn_ready (rs := [5]) (by kernel_rfl) (by simp) ?_
            refine (AllReadyIn.cons rfl (fun K hK => ?_) AllReadyIn.nil)
            go_simp
            refine hK _ _ ?_
            clear hK K
            refine wpAnyIn_done (by kernel_rfl) ?_ _
            exact HFIN.out _ _ _ HFR.out HNEAR.out HLM4.out
          focus
            go_simp
            refine ⟨trivial, CallsIn.inRound l ((callsIn_wide.2 HT.out).mono ?_)⟩
            rintro e w1 hcop
            obtain ⟨oa2, oc2, na2, nc2, rfl, hb1, ra2, rc2, w2, hrun, k6, hoth, hfr, hnear, hLM4⟩ := HL3.out.app hw2 hcop
            have c61 := (hb1.cell (p := ⟨w.heap.size + 1, 0, none⟩) l6).trans c6
            have l61 := Nat.lt_of_lt_of_le l6 hb1.size
            have c62 : w2.cell? ⟨w.heap.size + 1, 0, none⟩ = some (.slice ra' ws3.length rc') := cell_row k6 0
            have z62 : w2.frozen? ⟨w.heap.size + 1, 0, none⟩ = false := frozen_row k6 0
            have l62 := heap_lt k6
            have HRUN := Lib.hid hrun
            have HOTH := Lib.hid hoth
            have HFR := Lib.hid hfr
            have HNEAR := Lib.hid hnear
            have HLM4 := Lib.hid hLM4
            clear hrun hoth hfr hnear hLM4 k6 hcop
            refine hK _ _ ?_
            clear hK K
            refine wpAnyIn_ready (rs := [0, 3]) (by kernel_rfl) (by simp) ?_
            refine (AllReadyIn.cons rfl (fun K hK => ?_) (AllReadyIn.cons rfl (fun K hK => ?_) AllReadyIn.nil))
            focus
              go_simp
              refine hK _ _ ?_
              clear hK K
              refine wpAnyIn_ready (rs := [3]) (by kernel_rfl) (by simp) ?_
              refine (AllReadyIn.cons rfl (fun K hK => ?_) AllReadyIn.nil)
              go_simp
              refine hK _ _ ?_
              clear hK K
              refine wpAnyIn_ready (rs := [4]) (by kernel_rfl) (by simp) ?_
              refine (AllReadyIn.cons rfl (fun K hK => ?_) AllReadyIn.nil)
              refine stepIn_append_run rfl (.tmp 38) (.tmp 41) _ _ rfl _ _ (by simp [Act.eval]) (by simp [Act.eval]) (HRUN.out _) ?_
              refine hK _ _ ?_
              clear hK K
              refine wpAnyIn_ready (rs := [5]) (by kernel_rfl) (by simp) ?_
              refine (AllReadyIn.cons rfl (fun K hK => ?_) AllReadyIn.nil)
              go_simp
              refine hK _ _ ?_
              clear hK K
              refine wpAnyIn_done (by kernel_rfl) ?_ _
              exact HFIN.out _ _ _ HFR.out HNEAR.out HLM4.out
            focus
              go_simp
              refine hK _ _ ?_
              clear hK K
              refine wpAnyIn_ready (rs := [0]) (by kernel_rfl) (by simp) ?_
              refine (AllReadyIn.cons rfl (fun K hK => ?_) AllReadyIn.nil)
              go_simp
              refine hK _ _ ?_
              clear hK K
              refine wpAnyIn_ready (rs := [4]) (by kernel_rfl) (by simp) ?_
              refine (AllReadyIn.cons rfl (fun K hK => ?_) AllReadyIn.nil)
              refine stepIn_append_run rfl (.tmp 38) (.tmp 41) _ _ rfl _ _ (by simp [Act.eval]) (by simp [Act.eval]) (HRUN.out _) ?_
              refine hK _ _ ?_
              clear hK K
              refine wpAnyIn_ready (rs := [5]) (by kernel_rfl) (by simp) ?_
              refine (AllReadyIn.cons rfl (fun K hK => ?_) AllReadyIn.nil)
              go_simp
              refine hK _ _ ?_
              clear hK K
              refine wpAnyIn_done (by kernel_rfl) ?_ _
              exact HFIN.out _ _ _ HFR.out HNEAR.out HLM4.out
      case done =>
        rintro W3 ⟨ra', rc', hl3, ho⟩ hD
        have eL : (Go.Proofs.Ytalhiedbhcklgaa.U.dn L).map (fun i => turnC (chAt (t.chs a) i)) = backC (t.chs a) := by rw [← hL]; exact dn_back _
        rw [eL] at hl3
        have HLM4 : Hid (LM F w bt t w.heap.size (w.heap.size + 1) f g da m dc (W2.heap.size :: ds) (t.up a) b (ws ++ backC (t.chs a)) ra' rc' hs dn W3) := { hl3.out with
          nodup := List.nodup_cons.2 ⟨fun e => by have := hdlt _ e; omega, hl3.out.nodup⟩
          marks := fun D hD' => by
            rcases List.mem_cons.1 hD' with rfl | hD'
            · exact ⟨by have := HLM2.out.bel.size; omega, hD⟩
            · exact hl3.out.marks D hD' }
        clear hl3 ho eL hD
        have HLM5 := Lib.hid HLM4.out.boxes
        obtain ⟨W5, hW5⟩ : ∃ W5, ((W3.alloc (.cells #[.int .i64 (t.up a : Nat)] 3)).alloc (.cells #[.int .i64 (b : Nat)] 3)) = W5 := ⟨_, rfl⟩
        rw [hW5] at HLM5
        have k1 := cell_row HLM4.out.cf 0
        have k2 := cell_row HLM4.out.cg 0
        have k1 : W3.cell? ⟨f, 0, none⟩ = some (.int .i64 (t.up a : Nat)) := k1
        have k2 : W3.cell? ⟨g, 0, none⟩ = some (.int .i64 (b : Nat)) := k2
        have l1 := heap_lt HLM4.out.cf
        have l2 := heap_lt HLM4.out.cg
        clear hlow hws
        gi_wp2
        have hua := Tr.up_lt H.out.ok ha0 hWN.out.la
        have hms : numAt W5 (.pointer (some ⟨W3.heap.size, 0, none⟩)) + numAt W5 (.pointer (some ⟨W3.heap.size + 1, 0, none⟩)) < numAt W (.pointer (some ⟨f, 0, none⟩)) + numAt W (.pointer (some ⟨g, 0, none⟩)) := by
          rw [numAt_eq (cell_row HLM5.out.cf 0), numAt_eq (cell_row HLM5.out.cg 0), numAt_eq cf, numAt_eq cg]
          omega
        refine ⟨⟨W3.heap.size, W3.heap.size + 1, m, dc, da, W2.heap.size :: ds, t.up a, b, ws ++ backC (t.chs a), ra', rc', hs, dn, _, _, _, _, _, _, _, _, _, _, _, _, _, _, _, _, _, _, _, _, _, _, _, _, HLM5, ⟨by have := hWN.out.la; omega, hWN.out.lb, hWN.out.mb, ?_⟩, rfl⟩, hms⟩
        rw [hWN.out.eq, Tr.way_up H.out.ok hWN.out.la hab, List.append_assoc, List.append_assoc]
      case stop =>
        rintro j pre W3 _ h _
        exact h.elim
end Go.Proofs.Ytalhiedbhcklgaa.U
