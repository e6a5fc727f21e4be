/-
  The program's pasteChars. (MADE by wip/tools/gen_kpchars.py.)
  The program's pasteChars, where the text would grow too large.
-/
import Derived.Test.YtfldjoiohejilaaKPasS
import Derived.Deep.RegionHeld3
import Derived.Deep.RegionLaw
namespace Go.Proofs.Ytfldjoiohejilaa.U
open Go.RowKit
set_option linter.unusedVariables false
set_option linter.unusedSimpArgs false
set_option maxRecDepth 100000

/-- pasteChars' first boxes -/
def PfS (w : World) (b : Nat) (q : Pl) (W : World) : Prop := Below b w W ∧ W.heap[b]? = some (.cells #[.int .i64 (q.1 : Nat), .int .i64 (q.2 : Nat)] 24 (0, 0)) ∧ W.heap[b + 1]? = some (.cells #[.int .i64 0, .int .i64 0] 24 (0, 0))
theorem PfS.below {w W W' : World} {b : Nat} {q : Pl} (h : PfS w b q W) (hw : w.heap.size = b) (hb : Below W.heap.size W W') : PfS w b q W' :=
  ⟨h.1.trans (hb.mono (by have := h.1.size; omega)), (hb.block _ (heap_lt h.2.1)).trans h.2.1, (hb.block _ (heap_lt h.2.2)).trans h.2.2⟩
theorem pfs_new (w : World) (q : Pl) : PfS w w.heap.size q ((w.alloc (.cells #[.int .i64 (q.1 : Nat), .int .i64 (q.2 : Nat)] 24)).alloc (.cells #[.int .i64 0, .int .i64 0] 24)) := by
  obtain ⟨g1, g2⟩ := two_new w #[.int .i64 (q.1 : Nat), .int .i64 (q.2 : Nat)] #[.int .i64 0, .int .i64 0] 24 24 _ (Below.refl _ _)
  exact ⟨((Below.refl _ _).alloc (Nat.le_refl _) _).alloc (by simp) _, g1, g2⟩
theorem PfS.to {w W : World} {b : Nat} {q : Pl} (h : PfS w b q W) (hw : w.heap.size = b) (tc : Int) : PcS w b W.heap.size q tc (W.alloc (.cells #[.int .i64 (q.1 : Nat), .int .i64 tc] 24)) := by
  have h2 := h.below hw (bal W (.cells #[.int .i64 (q.1 : Nat), .int .i64 tc] 24))
  exact ⟨h2.1, h2.2.1, h2.2.2, heap_alloc_new W _, heap_lt h.2.2⟩
theorem PcS.set {w W : World} {b d : Nat} {q : Pl} {tc : Int} (h : PcS w b d q tc W) (tc' : Int) : PcS w b d q tc' (W.setCell ⟨d, 1, none⟩ (.int .i64 tc')) := by
  have hbd := h.bd
  have hd := heap_lt h.tb
  have hf : Fr (fun k => k = d) W (W.setCell ⟨d, 1, none⟩ (.int .i64 tc')) := (Fr.refl _ _).setCell _ _ (fun _ => rfl)
  exact ⟨setCell_below h.hb _ _ _ (by omega), (hf.block _ (by omega) (by omega)).trans h.p, (hf.block _ (by omega) (by omega)).trans h.z, heap_set h.tb 1 _, hbd⟩
theorem PcS.set2 {w W : World} {b d : Nat} {q : Pl} {tc : Int} (h : PcS w b d q tc W) (tc' : Int) : PcS w b d q tc' ((W.setCell ⟨d, 0, none⟩ (.int .i64 (q.1 : Nat))).setCell ⟨d, 1, none⟩ (.int .i64 tc')) := by
  have hbd := h.bd
  have hd := heap_lt h.tb
  have hf : Fr (fun k => k = d) W ((W.setCell ⟨d, 0, none⟩ (.int .i64 (q.1 : Nat))).setCell ⟨d, 1, none⟩ (.int .i64 tc')) := ((Fr.refl (fun k => k = d) W).setCell ⟨d, 0, none⟩ _ (fun _ => rfl)).setCell ⟨d, 1, none⟩ _ (fun _ => rfl)
  exact ⟨setCell_below (setCell_below h.hb _ _ _ (by omega)) _ _ _ (by omega), (hf.block _ (by omega) (by omega)).trans h.p, (hf.block _ (by omega) (by omega)).trans h.z, heap_set (heap_set h.tb 0 _) 1 _, hbd⟩
/-- where the new place is -/
def chTo (GL : List (List Int)) (q : Pl) (col M : Nat) : Int := if GL.length = 1 then (if lnL GL 0 = [] then (q.2 : Int) else ((col + M * (lnL GL 0).length : Nat) : Int) - 1) else (col : Int)
theorem chars_split {L GL : List (List Int)} {q : Pl} {col M : Nat} (hx : (10 : Int) ∉ lnL L q.1) {T D : List (List Int)} {y : List Int} (hT : splitL (repL M (joinL GL)) = T) (hD : T.set 0 ((lnL L q.1).take col ++ T.getD 0 []) = D ++ [y]) :
    splitL (charsX L q GL col M) = D ++ [y ++ (lnL L q.1).drop col] := by
  unfold charsX
  refine split_suffix (fun h => hx (List.mem_of_mem_drop h)) ?_
  rw [split_prefix (fun h => hx (List.mem_of_mem_take h)), hT, hD]
set_option maxHeartbeats 16000000 in
theorem kpchars_ok (F G : Nat → Prop) (a : Option Addr) (n c : Nat) (L : List (List Int)) (ga : Option Addr) (gn gc : Nat) (GL : List (List Int)) (q : Pl) (col m M : Nat) (w : World) (h : RdL F w a n c L) (hs : sizeN (lens L) ≤ 65536) (hg : RdL G w ga gn gc GL) (hgs : sizeN (lens GL) ≤ 65536) (hg0 : GL ≠ []) (hp : plainL GL) (hx10 : (10 : Int) ∉ lnL L q.1) (hq : q.1 < n) (hq2 : q.2 ≤ 1048576) (hcol : col ≤ (lnL L q.1).length) (hm1 : 1 ≤ m) (hm9 : m ≤ 9223372036854775807) (hM : M = if runesR GL = 0 then 1 else m) (hR : sizeN (lens L) + M * runesR GL ≤ 65537) :
    Calls Try.prog 56 #[.slice a n c, plV q, .int .i64 (col : Nat), .slice ga gn gc, .int .i64 (m : Nat)] w fun e w' => ∃ ra rm rc, e = .returned (.tuple #[.slice ra rm rc, plV (charsQ L q GL col M), .int .i64 0]) ∧ RdL (fun x => w.heap.size ≤ x) w' ra rm rc (charsL L q GL col M) ∧ Below w.heap.size w w' := by
  have hl := h.len
  have hgl := hg.len
  have hsm := h.small
  have hLc := size_count L
  have hGc := size_count GL
  have hGp := List.length_pos_iff.2 hg0
  have hrs := runesR_size hg0
  have hJ : (joinL GL).length = runesR GL := rfl
  obtain ⟨lb, lo, rfl, hlb, -, hrow⟩ := h.at_ (by omega)
  obtain ⟨x, hx⟩ : ∃ x, L[q.1]? = some x := ⟨_, List.getElem?_eq_getElem (by omega)⟩
  have hln := lnL_of hx
  obtain ⟨xa, xc, hcx, hrdx, -⟩ := hrow q.1 x hx
  have hxl : x.length ≤ 65536 := by
    have hm : x.length ∈ lens L := List.mem_map.2 ⟨_, List.mem_of_getElem? hx, rfl⟩
    have := sizeN_mem hm
    omega
  have hM1 : 1 ≤ M := by rw [hM]; split <;> omega
  have hMb : M ≤ 65537 := by
    rw [hM] at hR ⊢
    split
    · omega
    · rename_i h0
      rw [if_neg h0] at hR
      have : m ≤ m * runesR GL := Nat.le_mul_of_pos_right m (by omega)
      omega
  have hlen1 : GL.length = 1 → (lnL GL 0).length = runesR GL := by
    intro h1
    obtain ⟨y, hy⟩ : ∃ y, GL = [y] := List.length_eq_one_iff.1 h1
    subst hy
    show y.length = (joinL [y]).length
    rw [joinL_of (by rw [joinE_one])]
  have hch : charsQ L q GL col M = clipP (charsL L q GL col M) (q.1 : Int) (chTo GL q col M) := rfl
  have hCL : charsL L q GL col M = L.take q.1 ++ splitL (charsX L q GL col M) ++ L.drop (q.1 + 1) := rfl
  have hCs := charsL_size (q := q) (L := L) (by omega) GL col M
  obtain ⟨T, hT⟩ : ∃ T, splitL (repL M (joinL GL)) = T := ⟨_, rfl⟩
  have hTne : T ≠ [] := by rw [← hT]; exact splitL_ne _
  have hTp := List.length_pos_iff.2 hTne
  have hrl : (repL M (joinL GL)).length ≤ 65537 := by rw [repL_len, hJ]; omega
  have hTl : T.length ≤ 65538 := by rw [← hT]; have := split_count (repL M (joinL GL)); omega
  have hGwf : ∀ z ∈ repL M (joinL GL), (Lit.int .i32 z).wf = true := by
    intro z hz
    unfold repL at hz
    obtain ⟨y, hy, hz2⟩ := List.mem_flatten.1 hz
    rw [List.eq_of_mem_replicate hy] at hz2
    exact rdl_wf hg z hz2
  have hTw : ∀ y ∈ T, ∀ z ∈ y, (Lit.int .i32 z).wf = true := by rw [← hT]; exact split_wf hGwf
  have hTr : ∀ y ∈ T, y.length ≤ 65538 := by
    intro y hy
    have h1 := split_sum (repL M (joinL GL))
    rw [hT] at h1
    have := sizeN_mem (List.mem_map.2 ⟨y, hy, rfl⟩ : List.length y ∈ List.map List.length T)
    unfold lens at h1
    omega
  obtain ⟨t0, ht0⟩ : ∃ t0, T.getD 0 [] = t0 := ⟨_, rfl⟩
  have ht0' : T[0]? = some t0 := by rw [← ht0, List.getD_eq_getElem?_getD, List.getElem?_eq_getElem hTp]; rfl
  obtain ⟨D, y, hD⟩ : ∃ D y, T.set 0 (x.take col ++ t0) = D ++ [y] := ⟨_, _, (List.dropLast_concat_getLast (by intro e; have := congrArg List.length e; rw [List.length_set] at this; simp only [List.length_nil] at this; omega)).symm⟩
  have hspl : splitL (charsX L q GL col M) = D ++ [y ++ x.drop col] := by
    have := chars_split (L := L) (GL := GL) (q := q) (col := col) (M := M) hx10 hT (D := D) (y := y) (by rw [hln, ht0]; exact hD)
    rw [hln] at this
    exact this
  have hDl : D.length + 1 = T.length := by have := congrArg List.length hD; simp at this; omega
  have hyl : y.length ≤ 262144 := by
    have hy : y ∈ T.set 0 (x.take col ++ t0) := by rw [hD]; simp
    rcases List.mem_or_eq_of_mem_set hy with h1 | h1
    · have := hTr y h1; omega
    · have h3 := hTr t0 (List.mem_of_getElem? ht0')
      rw [h1]
      simp
      omega
  rw [hln] at hcol hx10
  obtain ⟨E, hE⟩ : ∃ E, runesR GL = E := ⟨_, rfl⟩
  rw [hE] at hM hR hlen1 hrs hJ hCs
  have hTO : ∀ tc : Int, tc = chTo GL q col M → clipP (charsL L q GL col M) (q.1 : Int) tc = charsQ L q GL col M := by
    intro tc e
    rw [hch, e]
  obtain ⟨R, hRR⟩ : ∃ R, charsL L q GL col M = R := ⟨_, rfl⟩
  obtain ⟨⟨z1, z2⟩, hQ⟩ : ∃ Q, charsQ L q GL col M = Q := ⟨_, rfl⟩
  rw [hRR, hspl] at hCL
  rw [hRR] at hCs
  simp only [hRR, hQ] at hTO
  rw [hRR, hQ]
  obtain ⟨q1, q2⟩ := q
  unfold plV
  simp only at hTO hq hq2 hcol hcx hCL hx ⊢
  obtain ⟨wb, hwb⟩ : ∃ wb, (w.alloc (.cells #[.int .i64 (q1 : Nat), .int .i64 (q2 : Nat)] 24)).alloc (.cells #[.int .i64 0, .int .i64 0] 24) = wb := ⟨_, rfl⟩
  have hP := pfs_new w (q1, q2)
  simp only at hP
  rw [hwb] at hP
  obtain ⟨b, hbe⟩ : ∃ b, w.heap.size = b := ⟨_, rfl⟩
  have HRO : Hid (∀ W, W = wb → Calls Try.prog 61 #[.slice (some ⟨lb, lo, none⟩) n c] W fun e w' => e = .returned (.int .i64 (65537 - (sizeN (lens L) : Int))) ∧ W = w') := by
    rintro W rfl
    exact (kroom_any F _ n c L W (h.below hP.1) (by omega)).mono fun _ _ h => ⟨h.1, h.2.symm⟩
  have HRU : Hid (∀ W, W = wb → Calls Try.prog 86 #[.slice ga gn gc] W fun e w' => e = .returned (.int .i64 (E : Nat)) ∧ W = w') := by
    rintro W rfl
    refine (krunes_any G ga gn gc GL W (hg.below hP.1) (by omega)).mono fun _ _ h => ⟨?_, h.2.symm⟩
    rw [h.1]
    congr 2
    omega
  obtain ⟨r, hr⟩ : ∃ r : Int, 65537 - (sizeN (lens L) : Int) = r := ⟨_, rfl⟩
  rw [hr] at HRO
  have HTI : Hid (∀ W, W = wb → Calls Try.prog 85 #[.int .i64 r, .int .i64 (E : Nat), .int .i64 (m : Nat)] W fun e w' => e = .returned (.tuple #[.int .i64 (M : Nat), .bool true]) ∧ w'.cell? ⟨b, 0, none⟩ = some (.int .i64 (q1 : Nat)) ∧ w'.cell? ⟨b, 1, none⟩ = some (.int .i64 (q2 : Nat)) ∧ b < w'.heap.size ∧ Hid (PfS w b (q1, q2) w')) := by
    rintro W rfl
    by_cases e0 : E = 0
    · subst e0
      rw [if_pos rfl] at hM
      refine (ktimes_0 r (m : Int) W).mono ?_
      rintro e w' ⟨rfl, hb⟩
      have h2 := hP.below rfl hb
      rw [hbe] at h2
      have hM' : (M : Int) = 1 := by omega
      exact ⟨by rw [decide_eq_true (by omega : 0 ≤ r), hM'], cell_row h2.2.1 0, cell_row h2.2.1 1, heap_lt h2.2.1, h2⟩
    · rw [if_neg e0] at hM
      subst hM
      have hmul : ((M * E : Nat) : Int) = (M : Int) * (E : Int) := by push_cast; rfl
      refine (ktimes_pos r (E : Int) (M : Int) W (by omega) (by omega) ⟨by omega, by omega⟩ (by omega) ⟨by omega, by omega⟩).mono ?_
      rintro e w' ⟨rfl, hb⟩
      have h2 := hP.below rfl hb
      rw [hbe] at h2
      exact ⟨by rw [decide_eq_true (by omega : (M : Int) * (E : Int) ≤ r)], cell_row h2.2.1 0, cell_row h2.2.1 1, heap_lt h2.2.1, h2⟩
  have HOF : Hid (∀ W d tc, Hid (PcS w b d (q1, q2) tc W) → Calls Try.prog 90 #[.slice ga gn gc, .int .i64 (M : Nat)] W fun e w' => ∃ (g tn tcap : Nat), e = .returned (.slice (some ⟨g, 0, none⟩) tn tcap) ∧ (w'.cell? ⟨b, 0, none⟩ = some (.int .i64 (q1 : Nat)) ∧ w'.cell? ⟨lb, lo + q1, none⟩ = some (.slice xa x.length xc)) ∧ Hid (tn = T.length ∧ PtS w b d (q1, q2) tc g tn tcap T w')) := by
    intro W d tc hW
    have hbW := hW.out.hb
    rw [← hbe] at hbW
    refine (koften_any G ga gn gc GL M W (hg.below hbW) (by omega) hg0 hp (by omega) (by rw [hJ]; omega)).mono ?_
    rintro e w' ⟨ta, tn, tcap, rfl, hOt⟩
    rw [hT] at hOt
    have htn := hOt.own.len
    obtain ⟨g, rfl⟩ : ∃ g, ta = some ⟨g, 0, none⟩ := by obtain ⟨vs, o1, -⟩ := hOt.own; exact own_some o1 (by omega)
    have hpc := hW.out.below hbe hOt.hb
    have hdl := heap_lt hW.out.tb
    have hbw' : Below w.heap.size w w' := hbW.trans (hOt.hb.mono hbW.size)
    exact ⟨g, tn, tcap, rfl, ⟨cell_row hpc.p 0, (hbw'.cell (p := ⟨lb, lo + q1, none⟩) hlb).trans hcx⟩, htn.symm, hpc, hOt.own.mono (fun k hk q => ⟨by omega, q.2⟩)⟩
  have HREP : Hid (∀ W d tc g tn tcap, Hid (PtS w b d (q1, q2) tc g tn tcap (D ++ [y ++ x.drop col]) W ∧ tn ≤ 65538) → Calls Try.prog 47 #[.slice (some ⟨lb, lo, none⟩) n c, .int .i64 (q1 : Nat), .int .i64 ((q1 + 1 : Nat) : Int), .slice (some ⟨g, 0, none⟩) tn tcap] W fun e w' => ∃ (va : Option Addr) (vn vc : Nat), e = .returned (.slice va vn vc) ∧ w'.cell? ⟨d, 0, none⟩ = some (.int .i64 (q1 : Nat)) ∧ w'.cell? ⟨d, 1, none⟩ = some (.int .i64 tc) ∧ d < w'.heap.size ∧ Hid (RdL (fun x => b + 2 ≤ x) w' va vn vc R ∧ PcS w b d (q1, q2) tc w')) := by
    intro W d tc g tn tcap hW
    have hbW := hW.out.1.pc.hb
    rw [← hbe] at hbW
    have hdl := heap_lt hW.out.1.pc.tb
    have hbd := hW.out.1.pc.bd
    refine (kreplaced_any F _ (some ⟨lb, lo, none⟩) n c L _ tn tcap (D ++ [y ++ x.drop col]) q1 (q1 + 1) W (h.below hbW) hW.out.1.own.rdl (by omega) (by omega) (by omega) (by omega) (by have := hW.out.2; omega)).mono ?_
    rintro e w' ⟨va, vc, rfl, hr2, hb⟩
    rw [← hCL] at hr2
    have h2 := hW.out.1.pc.below hbe hb
    exact ⟨va, _, vc, rfl, cell_row h2.tb 0, cell_row h2.tb 1, heap_lt h2.tb, hr2.mono (fun k hk => by rcases hk with hk | hk <;> omega), h2⟩
  obtain ⟨bz, hbz⟩ : ∃ bz, b + 1 = bz := ⟨_, rfl⟩
  have HCL : Hid (∀ W d tc va vn vc, Hid (RdL (fun x => b + 2 ≤ x) W va vn vc R ∧ PcS w b d (q1, q2) tc W ∧ tc = chTo GL (q1, q2) col M) → Calls Try.prog 53 #[.slice va vn vc, .agg #[.int .i64 (q1 : Nat), .int .i64 tc]] W fun e w' => e = .returned (.agg #[.int .i64 (z1 : Nat), .int .i64 (z2 : Nat)]) ∧ ArP bz w' ∧ Hid (RdL (fun x => b + 2 ≤ x) w' va vn vc R ∧ Below b w w')) := by
    intro W d tc va vn vc hW
    have htb : -1 ≤ tc ∧ tc ≤ 1099511627776 := by
      rw [hW.out.2.2]
      unfold chTo
      split
      · rename_i e1
        split
        · simp only; omega
        · rw [hlen1 e1]
          have h4 : M * E ≤ 65537 := by omega
          omega
      · omega
    refine (wclip_any _ va vn vc R ⟨(q1 : Int), tc⟩ W hW.out.1 ⟨⟨by show _ ≤ (q1 : Int); omega, by show (q1 : Int) ≤ _; omega⟩, ⟨by show _ ≤ tc; omega, by show tc ≤ _; omega⟩⟩).mono ?_
    rintro e w' ⟨rfl, hb⟩
    have h2 := hW.out.2.1.below hbe hb
    refine ⟨?_, by rw [← hbz]; exact ArP.of h2.z, hW.out.1.below hb, h2.hb⟩
    have h3 := hTO tc hW.out.2.2
    show Ending.returned (plV (clipP R (q1 : Int) tc)) = _
    rw [h3]
    rfl
  have HCAT : Hid (∀ W d tc g tn tcap sa sc xa', Hid (PtS w b d (q1, q2) tc g tn tcap T W ∧ Rd .i32 W sa t0.length sc t0 ∧ (xa' = none → xc = 0 ∧ x = []) ∧ (xa' ≠ none → xa' = xa) ∧ 0 < tn) → ∀ W2, (W2 = W.alloc (.cells #[.slice xa' col xc, .slice sa t0.length sc] 35) ∨ W2 = (W.alloc (.cells #[.slice xa' col xc, .slice sa t0.length sc] 35)).drew) → Calls Try.prog 46 #[.slice (some ⟨W.heap.size, 0, none⟩) 2 2] W2 fun e w' => ∃ (va : Option Addr) (vn vc : Nat), e = .returned (.slice va vn vc) ∧ (∃ u, w'.cell? ⟨g, 0, none⟩ = some u) ∧ w'.frozen? ⟨g, 0, none⟩ = false ∧ g < w'.heap.size ∧ Hid (PtS w b d (q1, q2) tc g tn tcap (D ++ [y]) (w'.setCell ⟨g, 0, none⟩ (.slice va vn vc)))) := by
    intro W d tc g tn tcap sa sc xa' hW W2 hW2
    have hbW := hW.out.1.pc.hb
    rw [← hbe] at hbW
    have hrx : Rd .i32 W xa' col xc (x.take col) := by
      cases xa' with
      | none =>
        obtain ⟨e1, e2⟩ := hW.out.2.2.1 rfl
        subst e1
        subst e2
        obtain rfl : col = 0 := by simpa using hcol
        exact Rd.none0 _ _
      | some ad =>
        have e1 := hW.out.2.2.2.1 (by simp)
        rw [e1]
        exact (hrdx.below hbW).take col hcol
    refine (kcat2 W W2 xa' sa col xc t0.length sc _ _ hrx hW.out.2.1 (by have := hTr t0 (List.mem_of_getElem? ht0'); omega) hW2).mono ?_
    rintro e w' ⟨va, vc, rfl, ho, hb⟩
    have hlen : (x.take col ++ t0).length = col + t0.length := by simp; omega
    rw [← hlen] at ho ⊢
    obtain ⟨h1, h2, h3, h4⟩ := hW.out.1.put hbe hW.out.2.2.2.2 hb ho (by
      intro z hz
      rcases List.mem_append.1 hz with hz | hz
      · exact hrdx.2.2.2.1 z (List.mem_of_mem_take hz)
      · exact hTw t0 (List.mem_of_getElem? ht0') z hz)
    rw [hD] at h4
    exact ⟨va, _, vc, rfl, h1, h2, h3, h4⟩
  have HX := Lib.hid (And.intro hrdx (And.intro hcol hxl))
  have HT0 := Lib.hid (And.intro ht0' (And.intro hTp hTl))
  have HD := Lib.hid (And.intro hDl hyl)
  have HTC : Hid (chTo GL (q1, q2) col M = if gn = 1 then (if E = 0 then (q2 : Int) else ((col + M * E : Nat) : Int) - 1) else (col : Int)) := by
    show _ = _
    unfold chTo
    rw [hgl]
    split
    · rename_i e1
      have e2 := hlen1 (by omega)
      have e3 : lnL GL 0 = [] ↔ E = 0 := by rw [← List.length_eq_zero_iff, e2]
      simp only [e3, e2]
    · rfl
  have HM := Lib.hid hM
  have hP1 := hP.2.1
  have hP2 := hP.2.2
  rw [hbe] at hP1 hP2
  obtain ⟨x0, x1, zz0, zz1⟩ := row2 hP1
  have xl := heap_lt hP1
  have HBE := Lib.hid hbe
  have HBZ := Lib.hid hbz
  clear hbz
  have HW := Lib.hid hwb
  rw [hbe]
  have hcolb : col ≤ 65536 := by omega
  obtain ⟨P, hPP⟩ : ∃ P, M * E = P := ⟨_, rfl⟩
  have hPb : P ≤ 65537 := by omega
  have hEM : (E : Int) * (M : Int) = (P : Int) := by rw [← hPP]; push_cast; rw [Int.mul_comm]
  have HPP := Lib.hid hPP
  have hEb : E ≤ 65537 := by omega
  obtain ⟨y1, hy1⟩ : ∃ y1, x.length = y1 := ⟨_, rfl⟩
  rw [hy1] at HOF
  have HY1 := Lib.hid hy1
  obtain ⟨q3, hq3⟩ : ∃ q3, q1 + 1 = q3 := ⟨_, rfl⟩
  have hq3i : (q1 : Int) + 1 = (q3 : Int) := by omega
  rw [hq3] at HREP
  have hq1i : (q1 : Int) < (n : Int) := by omega
  have hq10 : (0 : Int) ≤ (q1 : Int) := by omega
  have hq6 : q1 ≤ 65536 := by omega
  have hcx0 := hcx
  rw [hy1] at hcx0
  have HLB := Lib.hid (And.intro hlb hcx0)
  have hgn6 : gn ≤ 65536 := by omega
  clear h hg hwb hP hP1 hP2 hbe hR hr hg0 hGp hLc hGc hrow hrdx ht0' hTp hTl hD hspl hDl hyl hch hCL hCs hTne hrl hGwf hTw hTr hM1 hTO hRR hQ hlen1 hp hx10 hcol hs hgs hl hgl hrs hJ hT ht0 hln hx hE hM hxl hlb hcx hcx0 hy1 hq3 hPP
  by_cases hg1 : gn = 1
  · have hg1i : ((gn : Int) == 1) = true := by simp; omega
    by_cases hE0 : E = 0
    · have hE0i : ((E : Int) == 0) = true := by simp; omega
      have HTT : Hid ((q2 : Int) = chTo GL (q1, q2) col M) := by show _ = _; rw [HTC.out, if_pos hg1, if_pos hE0]
      have hPz : P = 0 := by rw [← HPP.out, hE0]; simp
      have hcm : (col : Int) + ((P : Int) - 1) = (col : Int) - 1 := by omega
      clear hg1 hE0
      go_enter Try.func56, Try.ntmps56
      go_upto_region 1 with fail
      rw [HBE.out, HW.out, HBZ.out]
      go_upto_region 5 with (first
        | (go_at_call 61; (refine (HRO.out _ rfl).mono ?_); rintro e wq ⟨rfl, hwq⟩; subst hwq)
        | (go_at_call 86; (refine (HRU.out _ rfl).mono ?_); rintro e wq ⟨rfl, hwq⟩; subst hwq)
        | (go_at_call 85; (refine (HTI.out _ rfl).mono ?_); rintro e w1 ⟨rfl, p0, p1, pl, HS⟩))
      clear x0 x1 zz0 zz1 xl
      have HP0 := Lib.hid (HS.out.to HBE.out (col : Int))
      go_upto_region 6 with fail
      obtain ⟨w2, hw2⟩ : ∃ w2, w1.alloc (.cells #[.int .i64 (q1 : Nat), .int .i64 (col : Nat)] 24) = w2 := ⟨_, rfl⟩
      obtain ⟨d, hd⟩ : ∃ d, w1.heap.size = d := ⟨_, rfl⟩
      rw [hd] at HP0
      simp only at HP0
      rw [hw2] at HP0
      rw [hw2, hd]
      clear hw2 hd p0 p1 pl
      have HPa := Lib.hid ((HP0.out.set ((col : Int) + ((P : Int) - 1))).set2 (q2 : Int))
      try simp only at HPa
      obtain ⟨d0, d1, dz0, dz1⟩ := row2 HP0.out.tb
      have dl := heap_lt HP0.out.tb
      obtain ⟨p0, p1, pz0, pz1⟩ := row2 HP0.out.p
      have pl := heap_lt HP0.out.p
      have hbd : ¬ b = d := by have := HP0.out.bd; omega
      have hdb : ¬ d = b := by omega
      simp only at d0 d1 p0 p1
      clear hcm hPz
      go_upto_region 10 with fail
      obtain ⟨w3, hw3⟩ : ∃ w3, ((w2.setCell ⟨d, 1, none⟩ (.int .i64 ((col : Int) + ((P : Int) - 1)))).setCell ⟨d, 0, none⟩ (.int .i64 (q1 : Nat))).setCell ⟨d, 1, none⟩ (.int .i64 (q2 : Nat)) = w3 := ⟨_, rfl⟩
      rw [hw3] at HPa
      rw [hw3]
      clear hw3 d0 d1 dz0 dz1 dl p0 p1 pz0 pz1 pl HP0
      have HP := HPa
      clear HPa
      clear HS
      have hcq : w3.cell? ⟨lb, lo + q1, none⟩ = some (.slice xa y1 xc) := ((by rw [HBE.out]; exact HP.out.hb : Below w.heap.size w w3).cell (p := ⟨lb, lo + q1, none⟩) HLB.out.1).trans HLB.out.2
      have hp0 := cell_row HP.out.p 0
      have HPD : Hid (PcS w b d (q1, q2) (q2 : Int) w3.drew) := HP.out.below HBE.out (Below.refl _ _).drew
      go_cut [16, 17] (fun v16 v17 W => ∃ g tn tcap : Nat, v16 = .slice (some ⟨g, 0, none⟩) tn tcap ∧ v17 = .slice xa y1 xc ∧ Hid (tn = T.length ∧ PtS w b d (q1, q2) (q2 : Int) g tn tcap T W))
      case first =>
        go_region_held3 (fun W => W.cell? ⟨b, 0, none⟩ = some (.int .i64 (q1 : Nat)) ∧ W.cell? ⟨lb, lo + q1, none⟩ = some (.slice xa y1 xc))
          (first | exact ⟨hp0, hcq⟩ | exact HQ)
          (first | (go_at_call 90; (with_reducible first | refine (HOF.out _ _ _ HP).mono ?_ | refine (HOF.out _ _ _ HPD).mono ?_); rintro e w4 ⟨g, tn, tcap, rfl, HQ, HT4⟩))
        all_goals
          go_wp2_with fail
          go_meet
          exact ⟨_, _, _, rfl, rfl, HT4⟩
      case rest =>
        obtain ⟨g, tn, tcap, rfl, rfl, HT4⟩ := hcut
        obtain ⟨wq, hwq⟩ : ∃ wq, wq = wc := ⟨_, rfl⟩
        subst hwq
        clear hcq hp0 HPD HP
        obtain ⟨k, hk⟩ : ∃ k, tn - 1 = k := ⟨_, rfl⟩
        have htn : 0 < tn ∧ tn ≤ 65538 := by have := HT4.out.1; have := HT0.out; omega
        obtain ⟨htn1, htn2⟩ := htn
        have hki : (tn : Int) - 1 = (k : Int) := by omega
        have hkt : k < tn := by omega
        have hkti : (k : Int) < (tn : Int) := by omega
        have hk0 : (0 : Int) ≤ (k : Int) := by omega
        have ht0i : (0 : Int) < (tn : Int) := by omega
        have HK : Hid (tn = k + 1) := by show _ = _; omega
        clear hk
        obtain ⟨gb', goff, sa, sc, e1, hgl, -, hsc, hsr, -, -⟩ := HT4.out.2.own.rdl.get (Below.refl _ _) HT0.out.1
        injection e1 with e1
        injection e1 with e1 e2
        subst e1
        subst e2
        rw [Nat.add_zero] at hsc
        obtain ⟨st, hst⟩ : ∃ st, t0.length = st := ⟨_, rfl⟩
        have HCA2 : Hid (∀ xa', (xa' = none → xc = 0 ∧ x = []) → (xa' ≠ none → xa' = xa) → ∀ W2, (W2 = wq.alloc (.cells #[.slice xa' col xc, .slice sa st sc] 35) ∨ W2 = (wq.alloc (.cells #[.slice xa' col xc, .slice sa st sc] 35)).drew) → Calls Try.prog 46 #[.slice (some ⟨wq.heap.size, 0, none⟩) 2 2] W2 fun e w' => ∃ (va : Option Addr) (vn vc : Nat), e = .returned (.slice va vn vc) ∧ (∃ u, w'.cell? ⟨g, 0, none⟩ = some u) ∧ w'.frozen? ⟨g, 0, none⟩ = false ∧ g < w'.heap.size ∧ Hid (PtS w b d (q1, q2) (q2 : Int) g tn tcap (D ++ [y]) (w'.setCell ⟨g, 0, none⟩ (.slice va vn vc)))) := by
          intro xa' h1 h2 W2 hW2
          rw [← hst] at hW2
          exact HCAT.out wq d _ g tn tcap sa sc xa' ⟨HT4.out.2, hsr, h1, h2, htn1⟩ W2 hW2
        rw [hst] at hsc
        have hxcb : col ≤ y1 ∧ y1 ≤ xc := by have := HX.out.2.1; have := HX.out.1.2.1; have := HY1.out; omega
        obtain ⟨hcy, hyx⟩ := hxcb
        have hcxc : col ≤ xc := by omega
        have HXN : Hid (xa = none → xc = 0 ∧ x = []) := fun e => by
          have h1 := HX.out.1.2.2.2.2.1 e
          have h2 := HX.out.1.2.1
          exact ⟨h1, List.eq_nil_of_length_eq_zero (by omega)⟩
        clear hst hsr HT4
        go_upto_region 12 with fail
        go_cut [18] (fun v18 W => v18 = .int .i64 (k : Nat) ∧ Hid (PtS w b d (q1, q2) (q2 : Int) g tn tcap (D ++ [y]) W))
        case first =>
          cases xa with
          | none =>
            obtain ⟨e1, e2⟩ := HXN.out rfl
            subst e1
            obtain rfl : y1 = 0 := by omega
            obtain rfl : col = 0 := by omega
            go_region_law (first
              | (go_simp; go_at_call 46; (first | refine (HCA2.out none (fun _ => HXN.out rfl) (fun h => absurd rfl h) _ (Or.inl rfl)).mono ?_ | refine (HCA2.out none (fun _ => HXN.out rfl) (fun h => absurd rfl h) _ (Or.inr rfl)).mono ?_); rintro e w5 ⟨va, vn, vc, rfl, ⟨u, hu⟩, hfz, hgw, HT5⟩))
            all_goals
              go_wp2_with fail
              go_meet
              exact ⟨rfl, HT5⟩
          | some ad =>
            go_region_law (first
              | (go_simp; go_at_call 46; (first | refine (HCA2.out (some ad) (fun h => by cases h) (fun _ => rfl) _ (Or.inl rfl)).mono ?_ | refine (HCA2.out (some ad) (fun h => by cases h) (fun _ => rfl) _ (Or.inr rfl)).mono ?_); rintro e w5 ⟨va, vn, vc, rfl, ⟨u, hu⟩, hfz, hgw, HT5⟩))
            all_goals
              go_wp2_with fail
              go_meet
              exact ⟨rfl, HT5⟩
        case rest =>
          obtain ⟨rfl, HT5⟩ := hcut
          obtain ⟨w6, hw6⟩ : ∃ w6, w6 = wc := ⟨_, rfl⟩
          subst hw6
          clear HCA2 hsc hgl
          have hbw6 : Below w.heap.size w w6.drew := by rw [HBE.out]; exact HT5.out.pc.hb.drew
          obtain ⟨da, hda⟩ : ∃ da, (if xc = col then xa else xa.map (·.add (col * 1))) = da := ⟨_, rfl⟩
          have hdr := (HX.out.1.below hbw6).drop col HX.out.2.1
          rw [hda, HY1.out] at hdr
          obtain ⟨ra, rc, a', c', w7, hg1, hg2, hg3, hrun, hu, hfz, hgw, hN⟩ := (HT5.out.below HBE.out (Below.refl _ _).drew).ext HBE.out HK.out hdr (by have := HD.out.2; have := HX.out.2.2; have := HY1.out; omega)
          obtain ⟨ny, hny⟩ : ∃ ny, y.length = ny := ⟨_, rfl⟩
          rw [hny] at hrun hg3 hN
          have hg2' : g < w6.heap.size := hg2
          have hg3' : w6.cell? ⟨g, k, none⟩ = some (.slice ra ny rc) := hg3
          obtain ⟨u, hu⟩ := hu
          have HRUN := Lib.hid hrun
          have HT7 : Hid (PtS w b d (q1, q2) (q2 : Int) g tn tcap (D ++ [y ++ x.drop col]) (w7.setCell ⟨g, k, none⟩ (.slice a' (ny + (y1 - col)) c')) ∧ tn ≤ 65538) := ⟨hN, htn2⟩
          clear hdr hrun hN hny hbw6
          go_upto_region 13 with fail
          go_cut [19] (fun v19 wx => wx = w7.setCell ⟨g, k, none⟩ (.slice a' (ny + (y1 - col)) c'))
          case first =>
            cases xa with
            | none =>
              obtain ⟨e1, e2⟩ := HXN.out rfl
              subst e1
              obtain rfl : y1 = 0 := by omega
              obtain rfl : col = 0 := by omega
              rw [if_pos rfl] at hda
              subst hda
              simp only [Nat.sub_self, Nat.add_zero] at HRUN ⊢
              go_region_law (refine step_append_run rfl (.tmp 77) (.tmp 80) _ _ rfl _ _ (by simp [Act.eval, Act.put]) (by simp [Act.eval, Act.put]) (HRUN.out _) ?_)
              all_goals
                go_wp2_with fail
                go_meet
                first | rfl | (simp only [Nat.sub_self, Nat.add_zero])
            | some ad =>
              by_cases hxk : xc = col
              · rw [if_pos hxk] at hda
                subst hda
                obtain rfl : y1 = col := by omega
                subst hxk
                simp only [Nat.sub_self, Nat.add_zero] at HRUN ⊢
                go_region_law (refine step_append_run rfl (.tmp 77) (.tmp 80) _ _ rfl _ _ (by simp [Act.eval, Act.put]) (by simp [Act.eval, Act.put]) (HRUN.out _) ?_)
                all_goals
                  go_wp2_with fail
                  go_meet
                  first | rfl | (simp only [Nat.sub_self, Nat.add_zero])
              · rw [if_neg hxk] at hda
                simp only [Option.map_some, Nat.mul_one] at hda
                subst hda
                go_region_law (refine step_append_run rfl (.tmp 77) (.tmp 80) _ _ rfl _ _ (by simp [Act.eval, Act.put]) (by simp [Act.eval, Act.put]) (HRUN.out _) ?_)
                all_goals
                  go_wp2_with fail
                  go_meet
                  first | rfl | (simp only [Nat.sub_self, Nat.add_zero])
          case rest =>
            obtain rfl := hcut
            clear HRUN hu hfz hgw hg2 hg3 hg2' hg3' hda
            obtain ⟨w8, hw8⟩ : ∃ w8, w7.setCell ⟨g, k, none⟩ (.slice a' (ny + (y1 - col)) c') = w8 := ⟨_, rfl⟩
            rw [hw8] at HT7
            rw [hw8]
            clear hw8
            obtain ⟨pp0, pp1, pz0, pz1⟩ := row2 HT7.out.1.pc.p
            have ppl := heap_lt HT7.out.1.pc.p
            simp only at pp0 pp1
            go_upto_region 15 with (go_at_call 47; (refine (HREP.out _ _ _ _ _ _ HT7).mono ?_); rintro e w9 ⟨va, vn, vc, rfl, d0, d1, dl, HR9⟩)
            have HR10 : Hid (RdL (fun x => b + 2 ≤ x) w9 va vn vc R ∧ PcS w b d (q1, q2) (q2 : Int) w9 ∧ (q2 : Int) = chTo GL (q1, q2) col M) := ⟨HR9.out.1, HR9.out.2, HTT.out⟩
            clear pp0 pp1 pz0 pz1 ppl
            go_cut [10, 12] (fun v10 v12 W => v10 = .slice va vn vc ∧ v12 = .int .i64 0 ∧ W.cell? ⟨bz, 0, none⟩ = some (.int .i64 (z1 : Nat)) ∧ W.cell? ⟨bz, 1, none⟩ = some (.int .i64 (z2 : Nat)) ∧ bz < W.heap.size ∧ Hid (∃ w10, W = (w10.setCell ⟨bz, 0, none⟩ (.int .i64 (z1 : Nat))).setCell ⟨bz, 1, none⟩ (.int .i64 (z2 : Nat)) ∧ RdL (fun x => b + 2 ≤ x) w10 va vn vc R ∧ Below b w w10))
            case first =>
              go_wp2_with (go_at_call 53; (refine (HCL.out _ _ _ _ _ _ HR10).mono ?_); rintro e w10 ⟨rfl, ⟨u0, u1, u2, u3, u4⟩, HR11⟩)
              go_meet
              exact ⟨rfl, rfl, by go_simp, by go_simp, by go_simp, ⟨w10, rfl, HR11.out⟩⟩
            case rest =>
              obtain ⟨rfl, rfl, c0, c1, cl, HR12⟩ := hcut
              go_step
              go_step
              refine bodyPost_ret (v := .tuple #[.slice va vn vc, .agg #[.int .i64 (z1 : Nat), .int .i64 (z2 : Nat)], .int .i64 0]) ?_ rfl ⟨va, vn, vc, rfl, ?_⟩
              · rw [results_tctK rfl]
                go_simp
                first | rfl | done
              · obtain ⟨w10, rfl, HR11⟩ := HR12.out
                obtain rfl := HBZ.out
                have hf : ∀ u v, Fr (fun z => z = b + 1) w10 ((w10.setCell ⟨b + 1, 0, none⟩ u).setCell ⟨b + 1, 1, none⟩ v) := fun u v => ((Fr.refl (fun z => z = b + 1) w10).setCell ⟨b + 1, 0, none⟩ _ (fun _ => rfl)).setCell ⟨b + 1, 1, none⟩ _ (fun _ => rfl)
                exact ⟨(HR11.1.frF (hf _ _) (fun z hz e => by omega)).mono (fun z hz => by omega), setCell_below (setCell_below HR11.2 _ _ _ (by omega)) _ _ _ (by omega)⟩
    · have hE0i : ((E : Int) == 0) = false := by simp; omega
      have HTT : Hid ((col : Int) + ((P : Int) - 1) = chTo GL (q1, q2) col M) := by show _ = _; rw [HTC.out, if_pos hg1, if_neg hE0, HPP.out]; push_cast; omega
      clear hg1 hE0
      go_enter Try.func56, Try.ntmps56
      go_upto_region 1 with fail
      rw [HBE.out, HW.out, HBZ.out]
      go_upto_region 5 with (first
        | (go_at_call 61; (refine (HRO.out _ rfl).mono ?_); rintro e wq ⟨rfl, hwq⟩; subst hwq)
        | (go_at_call 86; (refine (HRU.out _ rfl).mono ?_); rintro e wq ⟨rfl, hwq⟩; subst hwq)
        | (go_at_call 85; (refine (HTI.out _ rfl).mono ?_); rintro e w1 ⟨rfl, p0, p1, pl, HS⟩))
      clear x0 x1 zz0 zz1 xl
      have HP0 := Lib.hid (HS.out.to HBE.out (col : Int))
      go_upto_region 6 with fail
      obtain ⟨w2, hw2⟩ : ∃ w2, w1.alloc (.cells #[.int .i64 (q1 : Nat), .int .i64 (col : Nat)] 24) = w2 := ⟨_, rfl⟩
      obtain ⟨d, hd⟩ : ∃ d, w1.heap.size = d := ⟨_, rfl⟩
      rw [hd] at HP0
      simp only at HP0
      rw [hw2] at HP0
      rw [hw2, hd]
      clear hw2 hd p0 p1 pl
      have HPa := Lib.hid (HP0.out.set ((col : Int) + ((P : Int) - 1)))
      try simp only at HPa
      obtain ⟨d0, d1, dz0, dz1⟩ := row2 HP0.out.tb
      have dl := heap_lt HP0.out.tb
      simp only at d0 d1
      go_upto_region 10 with fail
      obtain ⟨w3, hw3⟩ : ∃ w3, w2.setCell ⟨d, 1, none⟩ (.int .i64 ((col : Int) + ((P : Int) - 1))) = w3 := ⟨_, rfl⟩
      rw [hw3] at HPa
      rw [hw3]
      obtain ⟨tc, htc⟩ : ∃ tc, (col : Int) + ((P : Int) - 1) = tc := ⟨_, rfl⟩
      rw [htc] at HPa HTT
      clear hw3 htc d0 d1 dz0 dz1 dl HP0
      have HP := HPa
      clear HPa
      clear HS
      have hcq : w3.cell? ⟨lb, lo + q1, none⟩ = some (.slice xa y1 xc) := ((by rw [HBE.out]; exact HP.out.hb : Below w.heap.size w w3).cell (p := ⟨lb, lo + q1, none⟩) HLB.out.1).trans HLB.out.2
      have hp0 := cell_row HP.out.p 0
      have HPD : Hid (PcS w b d (q1, q2) tc w3.drew) := HP.out.below HBE.out (Below.refl _ _).drew
      go_cut [16, 17] (fun v16 v17 W => ∃ g tn tcap : Nat, v16 = .slice (some ⟨g, 0, none⟩) tn tcap ∧ v17 = .slice xa y1 xc ∧ Hid (tn = T.length ∧ PtS w b d (q1, q2) tc g tn tcap T W))
      case first =>
        go_region_held3 (fun W => W.cell? ⟨b, 0, none⟩ = some (.int .i64 (q1 : Nat)) ∧ W.cell? ⟨lb, lo + q1, none⟩ = some (.slice xa y1 xc))
          (first | exact ⟨hp0, hcq⟩ | exact HQ)
          (first | (go_at_call 90; (with_reducible first | refine (HOF.out _ _ _ HP).mono ?_ | refine (HOF.out _ _ _ HPD).mono ?_); rintro e w4 ⟨g, tn, tcap, rfl, HQ, HT4⟩))
        all_goals
          go_wp2_with fail
          go_meet
          exact ⟨_, _, _, rfl, rfl, HT4⟩
      case rest =>
        obtain ⟨g, tn, tcap, rfl, rfl, HT4⟩ := hcut
        obtain ⟨wq, hwq⟩ : ∃ wq, wq = wc := ⟨_, rfl⟩
        subst hwq
        clear hcq hp0 HPD HP
        obtain ⟨k, hk⟩ : ∃ k, tn - 1 = k := ⟨_, rfl⟩
        have htn : 0 < tn ∧ tn ≤ 65538 := by have := HT4.out.1; have := HT0.out; omega
        obtain ⟨htn1, htn2⟩ := htn
        have hki : (tn : Int) - 1 = (k : Int) := by omega
        have hkt : k < tn := by omega
        have hkti : (k : Int) < (tn : Int) := by omega
        have hk0 : (0 : Int) ≤ (k : Int) := by omega
        have ht0i : (0 : Int) < (tn : Int) := by omega
        have HK : Hid (tn = k + 1) := by show _ = _; omega
        clear hk
        obtain ⟨gb', goff, sa, sc, e1, hgl, -, hsc, hsr, -, -⟩ := HT4.out.2.own.rdl.get (Below.refl _ _) HT0.out.1
        injection e1 with e1
        injection e1 with e1 e2
        subst e1
        subst e2
        rw [Nat.add_zero] at hsc
        obtain ⟨st, hst⟩ : ∃ st, t0.length = st := ⟨_, rfl⟩
        have HCA2 : Hid (∀ xa', (xa' = none → xc = 0 ∧ x = []) → (xa' ≠ none → xa' = xa) → ∀ W2, (W2 = wq.alloc (.cells #[.slice xa' col xc, .slice sa st sc] 35) ∨ W2 = (wq.alloc (.cells #[.slice xa' col xc, .slice sa st sc] 35)).drew) → Calls Try.prog 46 #[.slice (some ⟨wq.heap.size, 0, none⟩) 2 2] W2 fun e w' => ∃ (va : Option Addr) (vn vc : Nat), e = .returned (.slice va vn vc) ∧ (∃ u, w'.cell? ⟨g, 0, none⟩ = some u) ∧ w'.frozen? ⟨g, 0, none⟩ = false ∧ g < w'.heap.size ∧ Hid (PtS w b d (q1, q2) tc g tn tcap (D ++ [y]) (w'.setCell ⟨g, 0, none⟩ (.slice va vn vc)))) := by
          intro xa' h1 h2 W2 hW2
          rw [← hst] at hW2
          exact HCAT.out wq d _ g tn tcap sa sc xa' ⟨HT4.out.2, hsr, h1, h2, htn1⟩ W2 hW2
        rw [hst] at hsc
        have hxcb : col ≤ y1 ∧ y1 ≤ xc := by have := HX.out.2.1; have := HX.out.1.2.1; have := HY1.out; omega
        obtain ⟨hcy, hyx⟩ := hxcb
        have hcxc : col ≤ xc := by omega
        have HXN : Hid (xa = none → xc = 0 ∧ x = []) := fun e => by
          have h1 := HX.out.1.2.2.2.2.1 e
          have h2 := HX.out.1.2.1
          exact ⟨h1, List.eq_nil_of_length_eq_zero (by omega)⟩
        clear hst hsr HT4
        go_upto_region 12 with fail
        go_cut [18] (fun v18 W => v18 = .int .i64 (k : Nat) ∧ Hid (PtS w b d (q1, q2) tc g tn tcap (D ++ [y]) W))
        case first =>
          cases xa with
          | none =>
            obtain ⟨e1, e2⟩ := HXN.out rfl
            subst e1
            obtain rfl : y1 = 0 := by omega
            obtain rfl : col = 0 := by omega
            go_region_law (first
              | (go_simp; go_at_call 46; (first | refine (HCA2.out none (fun _ => HXN.out rfl) (fun h => absurd rfl h) _ (Or.inl rfl)).mono ?_ | refine (HCA2.out none (fun _ => HXN.out rfl) (fun h => absurd rfl h) _ (Or.inr rfl)).mono ?_); rintro e w5 ⟨va, vn, vc, rfl, ⟨u, hu⟩, hfz, hgw, HT5⟩))
            all_goals
              go_wp2_with fail
              go_meet
              exact ⟨rfl, HT5⟩
          | some ad =>
            go_region_law (first
              | (go_simp; go_at_call 46; (first | refine (HCA2.out (some ad) (fun h => by cases h) (fun _ => rfl) _ (Or.inl rfl)).mono ?_ | refine (HCA2.out (some ad) (fun h => by cases h) (fun _ => rfl) _ (Or.inr rfl)).mono ?_); rintro e w5 ⟨va, vn, vc, rfl, ⟨u, hu⟩, hfz, hgw, HT5⟩))
            all_goals
              go_wp2_with fail
              go_meet
              exact ⟨rfl, HT5⟩
        case rest =>
          obtain ⟨rfl, HT5⟩ := hcut
          obtain ⟨w6, hw6⟩ : ∃ w6, w6 = wc := ⟨_, rfl⟩
          subst hw6
          clear HCA2 hsc hgl
          have hbw6 : Below w.heap.size w w6.drew := by rw [HBE.out]; exact HT5.out.pc.hb.drew
          obtain ⟨da, hda⟩ : ∃ da, (if xc = col then xa else xa.map (·.add (col * 1))) = da := ⟨_, rfl⟩
          have hdr := (HX.out.1.below hbw6).drop col HX.out.2.1
          rw [hda, HY1.out] at hdr
          obtain ⟨ra, rc, a', c', w7, hg1, hg2, hg3, hrun, hu, hfz, hgw, hN⟩ := (HT5.out.below HBE.out (Below.refl _ _).drew).ext HBE.out HK.out hdr (by have := HD.out.2; have := HX.out.2.2; have := HY1.out; omega)
          obtain ⟨ny, hny⟩ : ∃ ny, y.length = ny := ⟨_, rfl⟩
          rw [hny] at hrun hg3 hN
          have hg2' : g < w6.heap.size := hg2
          have hg3' : w6.cell? ⟨g, k, none⟩ = some (.slice ra ny rc) := hg3
          obtain ⟨u, hu⟩ := hu
          have HRUN := Lib.hid hrun
          have HT7 : Hid (PtS w b d (q1, q2) tc g tn tcap (D ++ [y ++ x.drop col]) (w7.setCell ⟨g, k, none⟩ (.slice a' (ny + (y1 - col)) c')) ∧ tn ≤ 65538) := ⟨hN, htn2⟩
          clear hdr hrun hN hny hbw6
          go_upto_region 13 with fail
          go_cut [19] (fun v19 wx => wx = w7.setCell ⟨g, k, none⟩ (.slice a' (ny + (y1 - col)) c'))
          case first =>
            cases xa with
            | none =>
              obtain ⟨e1, e2⟩ := HXN.out rfl
              subst e1
              obtain rfl : y1 = 0 := by omega
              obtain rfl : col = 0 := by omega
              rw [if_pos rfl] at hda
              subst hda
              simp only [Nat.sub_self, Nat.add_zero] at HRUN ⊢
              go_region_law (refine step_append_run rfl (.tmp 77) (.tmp 80) _ _ rfl _ _ (by simp [Act.eval, Act.put]) (by simp [Act.eval, Act.put]) (HRUN.out _) ?_)
              all_goals
                go_wp2_with fail
                go_meet
                first | rfl | (simp only [Nat.sub_self, Nat.add_zero])
            | some ad =>
              by_cases hxk : xc = col
              · rw [if_pos hxk] at hda
                subst hda
                obtain rfl : y1 = col := by omega
                subst hxk
                simp only [Nat.sub_self, Nat.add_zero] at HRUN ⊢
                go_region_law (refine step_append_run rfl (.tmp 77) (.tmp 80) _ _ rfl _ _ (by simp [Act.eval, Act.put]) (by simp [Act.eval, Act.put]) (HRUN.out _) ?_)
                all_goals
                  go_wp2_with fail
                  go_meet
                  first | rfl | (simp only [Nat.sub_self, Nat.add_zero])
              · rw [if_neg hxk] at hda
                simp only [Option.map_some, Nat.mul_one] at hda
                subst hda
                go_region_law (refine step_append_run rfl (.tmp 77) (.tmp 80) _ _ rfl _ _ (by simp [Act.eval, Act.put]) (by simp [Act.eval, Act.put]) (HRUN.out _) ?_)
                all_goals
                  go_wp2_with fail
                  go_meet
                  first | rfl | (simp only [Nat.sub_self, Nat.add_zero])
          case rest =>
            obtain rfl := hcut
            clear HRUN hu hfz hgw hg2 hg3 hg2' hg3' hda
            obtain ⟨w8, hw8⟩ : ∃ w8, w7.setCell ⟨g, k, none⟩ (.slice a' (ny + (y1 - col)) c') = w8 := ⟨_, rfl⟩
            rw [hw8] at HT7
            rw [hw8]
            clear hw8
            obtain ⟨pp0, pp1, pz0, pz1⟩ := row2 HT7.out.1.pc.p
            have ppl := heap_lt HT7.out.1.pc.p
            simp only at pp0 pp1
            go_upto_region 15 with (go_at_call 47; (refine (HREP.out _ _ _ _ _ _ HT7).mono ?_); rintro e w9 ⟨va, vn, vc, rfl, d0, d1, dl, HR9⟩)
            have HR10 : Hid (RdL (fun x => b + 2 ≤ x) w9 va vn vc R ∧ PcS w b d (q1, q2) tc w9 ∧ tc = chTo GL (q1, q2) col M) := ⟨HR9.out.1, HR9.out.2, HTT.out⟩
            clear pp0 pp1 pz0 pz1 ppl
            go_cut [10, 12] (fun v10 v12 W => v10 = .slice va vn vc ∧ v12 = .int .i64 0 ∧ W.cell? ⟨bz, 0, none⟩ = some (.int .i64 (z1 : Nat)) ∧ W.cell? ⟨bz, 1, none⟩ = some (.int .i64 (z2 : Nat)) ∧ bz < W.heap.size ∧ Hid (∃ w10, W = (w10.setCell ⟨bz, 0, none⟩ (.int .i64 (z1 : Nat))).setCell ⟨bz, 1, none⟩ (.int .i64 (z2 : Nat)) ∧ RdL (fun x => b + 2 ≤ x) w10 va vn vc R ∧ Below b w w10))
            case first =>
              go_wp2_with (go_at_call 53; (refine (HCL.out _ _ _ _ _ _ HR10).mono ?_); rintro e w10 ⟨rfl, ⟨u0, u1, u2, u3, u4⟩, HR11⟩)
              go_meet
              exact ⟨rfl, rfl, by go_simp, by go_simp, by go_simp, ⟨w10, rfl, HR11.out⟩⟩
            case rest =>
              obtain ⟨rfl, rfl, c0, c1, cl, HR12⟩ := hcut
              go_step
              go_step
              refine bodyPost_ret (v := .tuple #[.slice va vn vc, .agg #[.int .i64 (z1 : Nat), .int .i64 (z2 : Nat)], .int .i64 0]) ?_ rfl ⟨va, vn, vc, rfl, ?_⟩
              · rw [results_tctK rfl]
                go_simp
                first | rfl | done
              · obtain ⟨w10, rfl, HR11⟩ := HR12.out
                obtain rfl := HBZ.out
                have hf : ∀ u v, Fr (fun z => z = b + 1) w10 ((w10.setCell ⟨b + 1, 0, none⟩ u).setCell ⟨b + 1, 1, none⟩ v) := fun u v => ((Fr.refl (fun z => z = b + 1) w10).setCell ⟨b + 1, 0, none⟩ _ (fun _ => rfl)).setCell ⟨b + 1, 1, none⟩ _ (fun _ => rfl)
                exact ⟨(HR11.1.frF (hf _ _) (fun z hz e => by omega)).mono (fun z hz => by omega), setCell_below (setCell_below HR11.2 _ _ _ (by omega)) _ _ _ (by omega)⟩
  · have hg1i : ((gn : Int) == 1) = false := by simp; omega
    have HTT : Hid ((col : Int) = chTo GL (q1, q2) col M) := by show _ = _; rw [HTC.out, if_neg hg1]
    clear hg1
    go_enter Try.func56, Try.ntmps56
    go_upto_region 1 with fail
    rw [HBE.out, HW.out, HBZ.out]
    go_upto_region 5 with (first
      | (go_at_call 61; (refine (HRO.out _ rfl).mono ?_); rintro e wq ⟨rfl, hwq⟩; subst hwq)
      | (go_at_call 86; (refine (HRU.out _ rfl).mono ?_); rintro e wq ⟨rfl, hwq⟩; subst hwq)
      | (go_at_call 85; (refine (HTI.out _ rfl).mono ?_); rintro e w1 ⟨rfl, p0, p1, pl, HS⟩))
    clear x0 x1 zz0 zz1 xl
    have HP0 := Lib.hid (HS.out.to HBE.out (col : Int))
    go_upto_region 6 with fail
    obtain ⟨w2, hw2⟩ : ∃ w2, w1.alloc (.cells #[.int .i64 (q1 : Nat), .int .i64 (col : Nat)] 24) = w2 := ⟨_, rfl⟩
    obtain ⟨d, hd⟩ : ∃ d, w1.heap.size = d := ⟨_, rfl⟩
    rw [hd] at HP0
    simp only at HP0
    rw [hw2] at HP0
    rw [hw2, hd]
    clear hw2 hd p0 p1 pl
    have HP := HP0
    clear HP0
    go_upto_region 10 with fail
    clear HS
    have hcq : w2.cell? ⟨lb, lo + q1, none⟩ = some (.slice xa y1 xc) := ((by rw [HBE.out]; exact HP.out.hb : Below w.heap.size w w2).cell (p := ⟨lb, lo + q1, none⟩) HLB.out.1).trans HLB.out.2
    have hp0 := cell_row HP.out.p 0
    have HPD : Hid (PcS w b d (q1, q2) (col : Int) w2.drew) := HP.out.below HBE.out (Below.refl _ _).drew
    go_cut [16, 17] (fun v16 v17 W => ∃ g tn tcap : Nat, v16 = .slice (some ⟨g, 0, none⟩) tn tcap ∧ v17 = .slice xa y1 xc ∧ Hid (tn = T.length ∧ PtS w b d (q1, q2) (col : Int) g tn tcap T W))
    case first =>
      go_region_held3 (fun W => W.cell? ⟨b, 0, none⟩ = some (.int .i64 (q1 : Nat)) ∧ W.cell? ⟨lb, lo + q1, none⟩ = some (.slice xa y1 xc))
        (first | exact ⟨hp0, hcq⟩ | exact HQ)
        (first | (go_at_call 90; (with_reducible first | refine (HOF.out _ _ _ HP).mono ?_ | refine (HOF.out _ _ _ HPD).mono ?_); rintro e w4 ⟨g, tn, tcap, rfl, HQ, HT4⟩))
      all_goals
        go_wp2_with fail
        go_meet
        exact ⟨_, _, _, rfl, rfl, HT4⟩
    case rest =>
      obtain ⟨g, tn, tcap, rfl, rfl, HT4⟩ := hcut
      obtain ⟨wq, hwq⟩ : ∃ wq, wq = wc := ⟨_, rfl⟩
      subst hwq
      clear hcq hp0 HPD HP
      obtain ⟨k, hk⟩ : ∃ k, tn - 1 = k := ⟨_, rfl⟩
      have htn : 0 < tn ∧ tn ≤ 65538 := by have := HT4.out.1; have := HT0.out; omega
      obtain ⟨htn1, htn2⟩ := htn
      have hki : (tn : Int) - 1 = (k : Int) := by omega
      have hkt : k < tn := by omega
      have hkti : (k : Int) < (tn : Int) := by omega
      have hk0 : (0 : Int) ≤ (k : Int) := by omega
      have ht0i : (0 : Int) < (tn : Int) := by omega
      have HK : Hid (tn = k + 1) := by show _ = _; omega
      clear hk
      obtain ⟨gb', goff, sa, sc, e1, hgl, -, hsc, hsr, -, -⟩ := HT4.out.2.own.rdl.get (Below.refl _ _) HT0.out.1
      injection e1 with e1
      injection e1 with e1 e2
      subst e1
      subst e2
      rw [Nat.add_zero] at hsc
      obtain ⟨st, hst⟩ : ∃ st, t0.length = st := ⟨_, rfl⟩
      have HCA2 : Hid (∀ xa', (xa' = none → xc = 0 ∧ x = []) → (xa' ≠ none → xa' = xa) → ∀ W2, (W2 = wq.alloc (.cells #[.slice xa' col xc, .slice sa st sc] 35) ∨ W2 = (wq.alloc (.cells #[.slice xa' col xc, .slice sa st sc] 35)).drew) → Calls Try.prog 46 #[.slice (some ⟨wq.heap.size, 0, none⟩) 2 2] W2 fun e w' => ∃ (va : Option Addr) (vn vc : Nat), e = .returned (.slice va vn vc) ∧ (∃ u, w'.cell? ⟨g, 0, none⟩ = some u) ∧ w'.frozen? ⟨g, 0, none⟩ = false ∧ g < w'.heap.size ∧ Hid (PtS w b d (q1, q2) (col : Int) g tn tcap (D ++ [y]) (w'.setCell ⟨g, 0, none⟩ (.slice va vn vc)))) := by
        intro xa' h1 h2 W2 hW2
        rw [← hst] at hW2
        exact HCAT.out wq d _ g tn tcap sa sc xa' ⟨HT4.out.2, hsr, h1, h2, htn1⟩ W2 hW2
      rw [hst] at hsc
      have hxcb : col ≤ y1 ∧ y1 ≤ xc := by have := HX.out.2.1; have := HX.out.1.2.1; have := HY1.out; omega
      obtain ⟨hcy, hyx⟩ := hxcb
      have hcxc : col ≤ xc := by omega
      have HXN : Hid (xa = none → xc = 0 ∧ x = []) := fun e => by
        have h1 := HX.out.1.2.2.2.2.1 e
        have h2 := HX.out.1.2.1
        exact ⟨h1, List.eq_nil_of_length_eq_zero (by omega)⟩
      clear hst hsr HT4
      go_upto_region 12 with fail
      go_cut [18] (fun v18 W => v18 = .int .i64 (k : Nat) ∧ Hid (PtS w b d (q1, q2) (col : Int) g tn tcap (D ++ [y]) W))
      case first =>
        cases xa with
        | none =>
          obtain ⟨e1, e2⟩ := HXN.out rfl
          subst e1
          obtain rfl : y1 = 0 := by omega
          obtain rfl : col = 0 := by omega
          go_region_law (first
            | (go_simp; go_at_call 46; (first | refine (HCA2.out none (fun _ => HXN.out rfl) (fun h => absurd rfl h) _ (Or.inl rfl)).mono ?_ | refine (HCA2.out none (fun _ => HXN.out rfl) (fun h => absurd rfl h) _ (Or.inr rfl)).mono ?_); rintro e w5 ⟨va, vn, vc, rfl, ⟨u, hu⟩, hfz, hgw, HT5⟩))
          all_goals
            go_wp2_with fail
            go_meet
            exact ⟨rfl, HT5⟩
        | some ad =>
          go_region_law (first
            | (go_simp; go_at_call 46; (first | refine (HCA2.out (some ad) (fun h => by cases h) (fun _ => rfl) _ (Or.inl rfl)).mono ?_ | refine (HCA2.out (some ad) (fun h => by cases h) (fun _ => rfl) _ (Or.inr rfl)).mono ?_); rintro e w5 ⟨va, vn, vc, rfl, ⟨u, hu⟩, hfz, hgw, HT5⟩))
          all_goals
            go_wp2_with fail
            go_meet
            exact ⟨rfl, HT5⟩
      case rest =>
        obtain ⟨rfl, HT5⟩ := hcut
        obtain ⟨w6, hw6⟩ : ∃ w6, w6 = wc := ⟨_, rfl⟩
        subst hw6
        clear HCA2 hsc hgl
        have hbw6 : Below w.heap.size w w6.drew := by rw [HBE.out]; exact HT5.out.pc.hb.drew
        obtain ⟨da, hda⟩ : ∃ da, (if xc = col then xa else xa.map (·.add (col * 1))) = da := ⟨_, rfl⟩
        have hdr := (HX.out.1.below hbw6).drop col HX.out.2.1
        rw [hda, HY1.out] at hdr
        obtain ⟨ra, rc, a', c', w7, hg1, hg2, hg3, hrun, hu, hfz, hgw, hN⟩ := (HT5.out.below HBE.out (Below.refl _ _).drew).ext HBE.out HK.out hdr (by have := HD.out.2; have := HX.out.2.2; have := HY1.out; omega)
        obtain ⟨ny, hny⟩ : ∃ ny, y.length = ny := ⟨_, rfl⟩
        rw [hny] at hrun hg3 hN
        have hg2' : g < w6.heap.size := hg2
        have hg3' : w6.cell? ⟨g, k, none⟩ = some (.slice ra ny rc) := hg3
        obtain ⟨u, hu⟩ := hu
        have HRUN := Lib.hid hrun
        have HT7 : Hid (PtS w b d (q1, q2) (col : Int) g tn tcap (D ++ [y ++ x.drop col]) (w7.setCell ⟨g, k, none⟩ (.slice a' (ny + (y1 - col)) c')) ∧ tn ≤ 65538) := ⟨hN, htn2⟩
        clear hdr hrun hN hny hbw6
        go_upto_region 13 with fail
        go_cut [19] (fun v19 wx => wx = w7.setCell ⟨g, k, none⟩ (.slice a' (ny + (y1 - col)) c'))
        case first =>
          cases xa with
          | none =>
            obtain ⟨e1, e2⟩ := HXN.out rfl
            subst e1
            obtain rfl : y1 = 0 := by omega
            obtain rfl : col = 0 := by omega
            rw [if_pos rfl] at hda
            subst hda
            simp only [Nat.sub_self, Nat.add_zero] at HRUN ⊢
            go_region_law (refine step_append_run rfl (.tmp 77) (.tmp 80) _ _ rfl _ _ (by simp [Act.eval, Act.put]) (by simp [Act.eval, Act.put]) (HRUN.out _) ?_)
            all_goals
              go_wp2_with fail
              go_meet
              first | rfl | (simp only [Nat.sub_self, Nat.add_zero])
          | some ad =>
            by_cases hxk : xc = col
            · rw [if_pos hxk] at hda
              subst hda
              obtain rfl : y1 = col := by omega
              subst hxk
              simp only [Nat.sub_self, Nat.add_zero] at HRUN ⊢
              go_region_law (refine step_append_run rfl (.tmp 77) (.tmp 80) _ _ rfl _ _ (by simp [Act.eval, Act.put]) (by simp [Act.eval, Act.put]) (HRUN.out _) ?_)
              all_goals
                go_wp2_with fail
                go_meet
                first | rfl | (simp only [Nat.sub_self, Nat.add_zero])
            · rw [if_neg hxk] at hda
              simp only [Option.map_some, Nat.mul_one] at hda
              subst hda
              go_region_law (refine step_append_run rfl (.tmp 77) (.tmp 80) _ _ rfl _ _ (by simp [Act.eval, Act.put]) (by simp [Act.eval, Act.put]) (HRUN.out _) ?_)
              all_goals
                go_wp2_with fail
                go_meet
                first | rfl | (simp only [Nat.sub_self, Nat.add_zero])
        case rest =>
          obtain rfl := hcut
          clear HRUN hu hfz hgw hg2 hg3 hg2' hg3' hda
          obtain ⟨w8, hw8⟩ : ∃ w8, w7.setCell ⟨g, k, none⟩ (.slice a' (ny + (y1 - col)) c') = w8 := ⟨_, rfl⟩
          rw [hw8] at HT7
          rw [hw8]
          clear hw8
          obtain ⟨pp0, pp1, pz0, pz1⟩ := row2 HT7.out.1.pc.p
          have ppl := heap_lt HT7.out.1.pc.p
          simp only at pp0 pp1
          go_upto_region 15 with (go_at_call 47; (refine (HREP.out _ _ _ _ _ _ HT7).mono ?_); rintro e w9 ⟨va, vn, vc, rfl, d0, d1, dl, HR9⟩)
          have HR10 : Hid (RdL (fun x => b + 2 ≤ x) w9 va vn vc R ∧ PcS w b d (q1, q2) (col : Int) w9 ∧ (col : Int) = chTo GL (q1, q2) col M) := ⟨HR9.out.1, HR9.out.2, HTT.out⟩
          clear pp0 pp1 pz0 pz1 ppl
          go_cut [10, 12] (fun v10 v12 W => v10 = .slice va vn vc ∧ v12 = .int .i64 0 ∧ W.cell? ⟨bz, 0, none⟩ = some (.int .i64 (z1 : Nat)) ∧ W.cell? ⟨bz, 1, none⟩ = some (.int .i64 (z2 : Nat)) ∧ bz < W.heap.size ∧ Hid (∃ w10, W = (w10.setCell ⟨bz, 0, none⟩ (.int .i64 (z1 : Nat))).setCell ⟨bz, 1, none⟩ (.int .i64 (z2 : Nat)) ∧ RdL (fun x => b + 2 ≤ x) w10 va vn vc R ∧ Below b w w10))
          case first =>
            go_wp2_with (go_at_call 53; (refine (HCL.out _ _ _ _ _ _ HR10).mono ?_); rintro e w10 ⟨rfl, ⟨u0, u1, u2, u3, u4⟩, HR11⟩)
            go_meet
            exact ⟨rfl, rfl, by go_simp, by go_simp, by go_simp, ⟨w10, rfl, HR11.out⟩⟩
          case rest =>
            obtain ⟨rfl, rfl, c0, c1, cl, HR12⟩ := hcut
            go_step
            go_step
            refine bodyPost_ret (v := .tuple #[.slice va vn vc, .agg #[.int .i64 (z1 : Nat), .int .i64 (z2 : Nat)], .int .i64 0]) ?_ rfl ⟨va, vn, vc, rfl, ?_⟩
            · rw [results_tctK rfl]
              go_simp
              first | rfl | done
            · obtain ⟨w10, rfl, HR11⟩ := HR12.out
              obtain rfl := HBZ.out
              have hf : ∀ u v, Fr (fun z => z = b + 1) w10 ((w10.setCell ⟨b + 1, 0, none⟩ u).setCell ⟨b + 1, 1, none⟩ v) := fun u v => ((Fr.refl (fun z => z = b + 1) w10).setCell ⟨b + 1, 0, none⟩ _ (fun _ => rfl)).setCell ⟨b + 1, 1, none⟩ _ (fun _ => rfl)
              exact ⟨(HR11.1.frF (hf _ _) (fun z hz e => by omega)).mono (fun z hz => by omega), setCell_below (setCell_below HR11.2 _ _ _ (by omega)) _ _ _ (by omega)⟩
end Go.Proofs.Ytfldjoiohejilaa.U

namespace Go.Proofs.Ytfldjoiohejilaa.U
open Go.RowKit
set_option linter.unusedVariables false
set_option linter.unusedSimpArgs false
set_option maxRecDepth 100000

set_option maxHeartbeats 4000000 in
theorem kpchars_no (F G : Nat → Prop) (a : Option Addr) (n c : Nat) (L : List (List Int)) (ga : Option Addr) (gn gc : Nat) (GL : List (List Int)) (q : Pl) (col : Nat) (m : Int) (w : World) (h : RdL F w a n c L) (hs : sizeN (lens L) ≤ 65536) (hg : RdL G w ga gn gc GL) (hgs : sizeN (lens GL) ≤ 65536) (hg0 : GL ≠ []) (hm : i64b m) (hm1 : 1 ≤ m) (hE0 : runesR GL ≠ 0) (hR : ¬ m * (runesR GL : Int) ≤ 65537 - (sizeN (lens L) : Int)) :
    Calls Try.prog 56 #[.slice a n c, plV q, .int .i64 (col : Nat), .slice ga gn gc, .int .i64 m] w fun e w' => e = .returned (.tuple #[.slice none 0 0, plV (0, 0), .int .i64 3]) ∧ Below w.heap.size w w' := by
  have hrs := runesR_size hg0
  obtain ⟨E, hE⟩ : ∃ E, runesR GL = E := ⟨_, rfl⟩
  rw [hE] at hE0 hR hrs
  obtain ⟨q1, q2⟩ := q
  unfold plV
  simp only
  obtain ⟨wb, hwb⟩ : ∃ wb, (w.alloc (.cells #[.int .i64 (q1 : Nat), .int .i64 (q2 : Nat)] 24)).alloc (.cells #[.int .i64 0, .int .i64 0] 24) = wb := ⟨_, rfl⟩
  have hP := pfs_new w (q1, q2)
  simp only at hP
  rw [hwb] at hP
  obtain ⟨b, hbe⟩ : ∃ b, w.heap.size = b := ⟨_, rfl⟩
  have HRO : Hid (∀ W, W = wb → Calls Try.prog 61 #[.slice a n c] W fun e w' => e = .returned (.int .i64 (65537 - (sizeN (lens L) : Int))) ∧ W = w') := by
    rintro W rfl
    exact (kroom_any F a n c L W (h.below hP.1) (by omega)).mono fun _ _ h => ⟨h.1, h.2.symm⟩
  have HRU : Hid (∀ W, W = wb → Calls Try.prog 86 #[.slice ga gn gc] W fun e w' => e = .returned (.int .i64 (E : Nat)) ∧ W = w') := by
    rintro W rfl
    refine (krunes_any G ga gn gc GL W (hg.below hP.1) (by omega)).mono fun _ _ h => ⟨?_, h.2.symm⟩
    rw [h.1]
    congr 2
    omega
  obtain ⟨r, hr⟩ : ∃ r : Int, 65537 - (sizeN (lens L) : Int) = r := ⟨_, rfl⟩
  rw [hr] at HRO hR
  obtain ⟨bz, hbz⟩ : ∃ bz, b + 1 = bz := ⟨_, rfl⟩
  have HTI : Hid (∀ W, W = wb → Calls Try.prog 85 #[.int .i64 r, .int .i64 (E : Nat), .int .i64 m] W fun e w' => e = .returned (.tuple #[.int .i64 m, .bool false]) ∧ ArP bz w' ∧ Hid (Below b w w' ∧ b ≤ bz)) := by
    rintro W rfl
    refine (ktimes_pos r (E : Int) m W (by omega) (by omega) ⟨by omega, by omega⟩ (by omega) hm).mono ?_
    rintro e w' ⟨rfl, hb⟩
    have h2 := hP.below rfl hb
    rw [hbe] at h2
    exact ⟨by rw [decide_eq_false hR], by rw [← hbz]; exact ArP.of h2.2.2, by rw [← hbe]; rw [← hbe] at h2; exact h2.1, by omega⟩
  have HBE := Lib.hid hbe
  have HBZ := Lib.hid hbz
  have HW := Lib.hid hwb
  have hP2 := hP.2.2
  rw [hbe, hbz] at hP2
  obtain ⟨x0, x1, z0, z1⟩ := row2 hP2
  have hl := heap_lt hP2
  rw [hbe]
  clear h hg hwb hP hP2 hbe hbz hR hr hg0 hE0 hE hs hgs hrs
  go_enter Try.func56, Try.ntmps56
  go_upto_region 1 with fail
  rw [HBE.out, HW.out, HBZ.out]
  go_wp2_with (first
    | (go_at_call 61; (refine (HRO.out _ rfl).mono ?_); rintro e wq ⟨rfl, hwq⟩; subst hwq)
    | (go_at_call 86; (refine (HRU.out _ rfl).mono ?_); rintro e wq ⟨rfl, hwq⟩; subst hwq)
    | (go_at_call 85; (refine (HTI.out _ rfl).mono ?_); rintro e w1 ⟨rfl, ⟨u0, u1, u2, u3, u4⟩, HB⟩))
  refine bodyPost_ret (v := .tuple #[.slice none 0 0, .agg #[.int .i64 0, .int .i64 0], .int .i64 3]) ?_ rfl ⟨rfl, ?_⟩
  · rw [results_tctK rfl]
    go_simp
    first | rfl | done
  · have h1 := HB.out.2
    (repeat' (first | (with_reducible exact HB.out.1) | (with_reducible refine setCell_below ?_ _ _ _ ?_) | omega))
end Go.Proofs.Ytfldjoiohejilaa.U
