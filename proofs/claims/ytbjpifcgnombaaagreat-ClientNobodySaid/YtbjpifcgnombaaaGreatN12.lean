/-
  
-/
import Derived.Test.YtbjpifcgnombaaaGreatN11
