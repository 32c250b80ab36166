/- What Commit and Recover leave, wherever the power goes. -/
import Derived.Test.YtkhdahipnfloeaaLog
import Derived.Test.YtkhdahipnfloeaaBase
namespace Go.Proofs.Ytkhdahipnfloeaa
open Go.RowKit
set_option maxRecDepth 100000

theorem sub_one {α : Type} {x : α} {l' : List α} {m : Nat} (h : l'.Sublist (([x] : List α).take m)) : l' = [] ∨ l' = [x] := by
  have h' := h.trans (List.take_sublist _ _)
  cases l' with
  | nil => exact .inl rfl
  | cons y t =>
    right
    have h1 := h'.length_le
    simp at h1
    subst h1
    have := h'.subset (List.mem_cons_self ..)
    simp at this
    rw [this]

theorem secs_head (n : Nat) : secs [(0, headOf n)] = [(0, sec (headOf n))] := rfl

/-- What a phase that was broken off leaves: some of its Writes. -/
theorem homes_out {A : Ab} {K H : List (List UInt8)} {l : Pages} (hS : Synced A K) (hL : Logged K H l) (hl : Pagess K.length l) :
    ((A.run (homesOps l)).1 = 0 ∧ (∃ K', Synced (A.run (homesOps l)).2 K' ∧ After K' H l) ∧ (A.run (homesOps l)).2.ops = A.ops + (l.length + 3) ∧ (A.run (homesOps l)).2.stop = A.stop - (l.length + 3)) ∨
    ((A.run (homesOps l)).1 = 13 ∧ (∃ K0 ws, Gone (A.run (homesOps l)).2 K0 ws ∧ ∀ l', l'.Sublist ws → Logged (over K0 l') H l ∨ After (over K0 l') H l) ∧ 1 ≤ A.stop) := by
  have hpos := secs_pos (P := fun i => 401 ≤ i ∧ ∃ q ∈ l, q.1 = (i : Int)) (homeWs_pos hl)
  have hlw : (homeWs l).length = l.length := by simp [homeWs]
  rcases run_ph (homeWs l) (ph [(0, [])]) hS (okHomes hl) with ⟨A1, s1, o1, t1, e1⟩ | ⟨g1, ⟨m, g2⟩, g3⟩
  · have hL1 : Logged (over K (secs (homeWs l))) H l := logged_over hL hl _ hpos
    have hl1 : Pagess (over K (secs (homeWs l))).length l := by rw [over_length]; exact hl
    have hmine : ∀ p ∈ l, (over K (secs (homeWs l)))[p.1.toNat]? = some (sec (page p.2)) := by
      intro p hp
      refine over_mem _ _ (by rw [secs_keys]; exact homeWs_nodup hl) _ _ (List.mem_map.2 ⟨(p.1.toNat, page p.2), List.mem_map.2 ⟨p, hp, rfl⟩, rfl⟩) ?_
      have := hl.ok p hp
      omega
    have hA := hL1.after hl1 hmine
    have hk : okWrites (over K (secs (homeWs l))).length [(0, [])] := by
      intro p hp
      simp at hp; subst hp
      exact ⟨by have := hl1.size; show 0 < _; omega, by simp⟩
    rw [show homesOps l = ph (homeWs l) ++ ph [(0, [])] from rfl, e1]
    rcases run_ph [(0, [])] [] s1 hk with ⟨A2, s2, o2, t2, e2⟩ | ⟨g1, ⟨m, g2⟩, g3⟩
    · left
      rw [List.append_nil] at e2
      rw [e2]
      refine ⟨rfl, ⟨_, s2, hA⟩, ?_, ?_⟩
      · show A2.ops = _
        rw [o2, o1, hlw]; simp; omega
      · show A2.stop = _
        rw [t2, t1, hlw]; simp; omega
    · right
      rw [List.append_nil] at g1 g2
      refine ⟨g1, ⟨_, _, g2, fun l' hl' => ?_⟩, by omega⟩
      rcases sub_one hl' with rfl | rfl
      · exact .inl hL1
      · exact .inr hA
  · right
    refine ⟨g1, ⟨_, _, g2, fun l' hl' => .inl (logged_over hL hl _ fun p hp => hpos p ?_)⟩, g3⟩
    exact (hl'.trans (List.take_sublist _ _)).subset hp

theorem commit_out {A : Ab} {K H : List (List UInt8)} {l : Pages} (hS : Synced A K) (hB : Before K H) (hl : Pagess K.length l) :
    ((A.run (commitOps l)).1 = 0 ∧ (∃ K', Synced (A.run (commitOps l)).2 K' ∧ After K' H l) ∧ (A.run (commitOps l)).2.ops = A.ops + (2 * l.length + 6) ∧ (A.run (commitOps l)).2.stop = A.stop - (2 * l.length + 6)) ∨
    ((A.run (commitOps l)).1 = 13 ∧ (∃ K0 ws, Gone (A.run (commitOps l)).2 K0 ws ∧ ∀ l', l'.Sublist ws → Before (over K0 l') H ∨ Logged (over K0 l') H l ∨ After (over K0 l') H l) ∧ 1 ≤ A.stop) := by
  have h4 := hl.most
  have hpos := secs_pos (P := fun i => 1 ≤ i ∧ i ≤ 400) (fun p hp => by have := bodyWs_pos 1 l p hp; omega)
  have hlw := bodyWs_length 1 l
  rcases run_ph (bodyWs 1 l) (ph [(0, headOf l.length)] ++ homesOps l) hS (okBody hl) with ⟨A1, s1, o1, t1, e1⟩ | ⟨g1, ⟨m, g2⟩, g3⟩
  · have hB1 : Before (over K (secs (bodyWs 1 l))) H := before_over hB _ hpos
    have hl1 : Pagess (over K (secs (bodyWs 1 l))).length l := by rw [over_length]; exact hl
    have hbody : ∀ i (hi : i < l.length), (over K (secs (bodyWs 1 l)))[1 + i]? = some (sec (le l[i].1 8 ++ page l[i].2)) := by
      intro i hi
      refine over_mem _ _ (by rw [secs_keys]; exact bodyWs_nodup 1 l) _ _ (List.mem_map.2 ⟨_, bodyWs_mem 1 l i hi, rfl⟩) ?_
      have := hl.size
      omega
    have hL := hB1.logged hl1 hbody
    have hl2 : Pagess (over (over K (secs (bodyWs 1 l))) [(0, sec (headOf l.length))]).length l := by rw [over_length]; exact hl1
    have hk : okWrites (over K (secs (bodyWs 1 l))).length [(0, headOf l.length)] := by
      intro p hp
      simp at hp; subst hp
      exact ⟨by have := hl1.size; show 0 < _; omega, by rw [headOf_length]; omega⟩
    rw [show commitOps l = ph (bodyWs 1 l) ++ (ph [(0, headOf l.length)] ++ homesOps l) from rfl, e1]
    rcases run_ph [(0, headOf l.length)] (homesOps l) s1 hk with ⟨A2, s2, o2, t2, e2⟩ | ⟨g1, ⟨m, g2⟩, g3⟩
    · rw [e2]
      rcases homes_out s2 hL hl2 with ⟨q1, q2, q3, q4⟩ | ⟨q1, ⟨K0, ws, q2, q3⟩, q4⟩
      · left
        refine ⟨q1, q2, ?_, ?_⟩
        · rw [q3, o2, o1, hlw]; simp; omega
        · rw [q4, t2, t1, hlw]; simp; omega
      · right
        exact ⟨q1, ⟨K0, ws, q2, fun l' hl' => .inr (q3 l' hl')⟩, by omega⟩
    · right
      refine ⟨g1, ⟨_, _, g2, fun l' hl' => ?_⟩, by omega⟩
      rw [secs_head] at hl'
      rcases sub_one hl' with rfl | rfl
      · exact .inl hB1
      · exact .inr (.inl hL)
  · right
    refine ⟨g1, ⟨_, _, g2, fun l' hl' => .inl (before_over hB _ fun p hp => hpos p ?_)⟩, g3⟩
    exact (hl'.trans (List.take_sublist _ _)).subset hp

/-! ### Recover -/

theorem fault0 {A : Ab} {K : List (List UInt8)} (hS : Synced A K) (h : 1 ≤ K.length) : A.fault 0 = 0 := by
  unfold Ab.fault
  rw [hS.live, hS.now, if_neg (by decide), if_pos (by omega)]

theorem recover_none {A : Ab} {K : List (List UInt8)} (hS : Synced A K) (hK : K[0]? = some (zeros 512)) : A.recover = (0, 0, A) := by
  have h1 : 1 ≤ K.length := by
    rcases K with _ | ⟨a, t⟩
    · simp at hK
    · simp
  have e : K.getD 0 [] = zeros 512 := by rw [List.getD_eq_getElem?_getD, hK]; rfl
  unfold Ab.recover
  rw [if_neg (by rw [fault0 hS h1]; decide), hS.now, e, if_neg]
  rintro ⟨h, -⟩
  exact absurd h (by decide)

theorem cnt_head (n : Nat) (h : n ≤ 400) : cntOf (sec (headOf n)) = n := by
  have e : ((sec (headOf n)).drop 8).take 8 = le n 8 := by
    unfold sec headOf
    rw [List.append_assoc, List.drop_left' (by rfl), List.take_left' (le_length _ _)]
  unfold cntOf
  rw [e, num_back _ (by simp [Lit.wf, IntKind.min, IntKind.max, IntKind.signed, IntKind.bits]; omega)]

theorem at_body (x : Int) (b : List UInt8) (h : (Lit.int .i64 x).wf = true) : atOf (sec (le x 8 ++ b)) = x := by
  unfold atOf sec
  rw [List.append_assoc, List.take_left' (le_length _ _), num_back x h]
theorem page_body (x : Int) (b : List UInt8) (h : b.length ≤ 504) : (sec (le x 8 ++ page b)).drop 8 = page b := by
  unfold sec
  rw [List.append_assoc, List.drop_left' (le_length _ _), List.length_append, le_length, page_length b h]
  exact List.append_nil _

theorem pages_log {K H : List (List UInt8)} {l : Pages} (hL : Logged K H l) (hl : Pagess K.length l) (hsz : K.length ≤ 1073741824) : ∀ i, i ≤ l.length → pagesOf K i = some ((l.take i).map fun p => (p.1, page p.2))
  | 0, _ => rfl
  | i + 1, hi => by
    have hil : i < l.length := by omega
    have e := hL.body i hil
    have h1 := hl.ok _ (List.getElem_mem hil)
    have g : K.getD (1 + i) [] = sec (le l[i].1 8 ++ page l[i].2) := by rw [List.getD_eq_getElem?_getD, e]; rfl
    have ea : atOf (sec (le l[i].1 8 ++ page l[i].2)) = l[i].1 := at_body _ _ (by simp [Lit.wf, IntKind.min, IntKind.max, IntKind.signed, IntKind.bits]; omega)
    unfold pagesOf
    rw [pages_log hL hl hsz i (by omega)]
    simp only [g, ea]
    rw [if_pos ⟨h1.1, h1.2.1⟩, page_body _ _ h1.2.2, List.take_succ_eq_append_getElem hil, List.map_append]
    rfl

theorem homeWs_page (l : Pages) (h : ∀ p ∈ l, p.2.length ≤ 504) : homeWs (l.map fun p => (p.1, page p.2)) = homeWs l := by
  unfold homeWs
  rw [List.map_map]
  refine List.map_congr_left fun p hp => ?_
  show (p.1.toNat, page (page p.2)) = _
  rw [page_page _ (h p hp)]

theorem recover_log {A : Ab} {K H : List (List UInt8)} {l : Pages} (hS : Synced A K) (hL : Logged K H l) (hl : Pagess K.length l) (hsz : K.length ≤ 1073741824) :
    (A.recover = ((l.length : Int), 0, (A.run (homesOps l)).2) ∧ ∃ K', Synced (A.run (homesOps l)).2 K' ∧ After K' H l) ∨
    (A.recover = (0, 13, (A.run (homesOps l)).2) ∧ (∃ K0 ws, Gone (A.run (homesOps l)).2 K0 ws ∧ ∀ l', l'.Sublist ws → Logged (over K0 l') H l ∨ After (over K0 l') H l) ∧ 1 ≤ A.stop) := by
  have h402 := hl.size
  have h4 := hl.most
  have e : K.getD 0 [] = sec (headOf l.length) := by rw [List.getD_eq_getElem?_getD, hL.head]; rfl
  have hc := cnt_head l.length h4
  have hn := hl.some'
  have eh : homesOps (l.map fun p => (p.1, page p.2)) = homesOps l := by unfold homesOps; rw [homeWs_page l fun p hp => (hl.ok p hp).2.2]
  have er : A.recover = if (A.run (homesOps l)).1 = 0 then ((l.length : Int), 0, (A.run (homesOps l)).2) else (0, (A.run (homesOps l)).1, (A.run (homesOps l)).2) := by
    unfold Ab.recover
    rw [if_neg (by rw [fault0 hS (by omega)]; decide), hS.now, e, if_pos, hc, Int.toNat_natCast, pages_log hL hl hsz _ (Nat.le_refl _), List.take_length]
    · simp only [eh]
    · refine ⟨?_, by rw [hc]; omega, by rw [hc]; omega, by rw [hc]; omega⟩
      unfold sec headOf
      rw [List.append_assoc, List.take_left' (by rfl)]
  rcases homes_out hS hL hl with ⟨q1, q2, -, -⟩ | ⟨q1, q2, q3⟩
  · left
    exact ⟨by rw [er, if_pos q1], q2⟩
  · right
    exact ⟨by rw [er, if_neg (by rw [q1]; decide), q1], q2, q3⟩
theorem After.before {K H : List (List UInt8)} {l : Pages} (h : After K H l) : Before K K := ⟨rfl, h.head, fun _ _ => rfl⟩
end Go.Proofs.Ytkhdahipnfloeaa
