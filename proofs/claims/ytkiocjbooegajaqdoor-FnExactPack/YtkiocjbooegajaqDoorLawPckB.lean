/- The laws of packing, and what the project answers there. -/
import Derived.Test.YtkiocjbooegajaqDoorLawPck
import Derived.Test.YtkiocjbooegajaqDoorPckG
